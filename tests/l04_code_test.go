package tests

import (
	"math"
	"slices"
	"strings"
	"testing"

	"loop.example/g00210/impl"
)

// text draws a text of just that many bytes.
func (d *drawer) text(count int) string {
	bytes := make([]byte, count)
	for i := range bytes {
		bytes[i] = byte(d.below(256))
	}
	return string(bytes)
}

// order draws the numbers 0 .. count - 1 in some order.
func (d *drawer) order(count int) []int {
	list := make([]int, count)
	for i := range list {
		j := d.below(i + 1)
		list[i], list[j] = list[j], i
	}
	return list
}

// longHead is how a text begins ahead of being cut: two bytes of a length.
func longHead(size int) string {
	return string([]byte{byte(size / 256), byte(size % 256)})
}

// longCut cuts a whole into k pieces, with noughts behind it up to k times length.
func longCut(whole string, k int, length int) []string {
	whole += strings.Repeat("\x00", k*length-len(whole))
	pieces := make([]string, k)
	for i := range pieces {
		pieces[i] = whole[i*length : (i+1)*length]
	}
	return pieces
}

// longRows is what each row tells of the pieces, byte by byte and apart from the program.
func longRows(rows [][]int, pieces []string) []string {
	list := make([]string, len(rows))
	for i, row := range rows {
		sum := make([]byte, len(pieces[0]))
		for j, piece := range pieces {
			for place := range sum {
				sum[place] ^= byte(longProduct(row[j], int(piece[place])))
			}
		}
		list[i] = string(sum)
	}
	return list
}

// longWhole is the n bodies of k times length bytes, which need not tell a text.
func longWhole(whole string, k int, n int, length int) []string {
	return longRows(longSpread(k, n), longCut(whole, k, length))
}

func longEncode(data string, k int, n int) []string {
	length := 0
	for k*length < len(data)+2 {
		length++
	}
	return longWhole(longHead(len(data))+data, k, n, length)
}

func pickTexts(list []string, places []int) []string {
	picked := make([]string, len(places))
	for i, place := range places {
		picked[i] = list[place]
	}
	return picked
}

// changed is the text with another byte at this place.
func changed(s string, place int, by int) string {
	return s[:place] + string([]byte{s[place] ^ byte(by)}) + s[place+1:]
}

// withTextAt is a new list with this text in that place.
func withTextAt(list []string, place int, s string) []string {
	list = slices.Clone(list)
	list[place] = s
	return list
}

// noSizes are numbers that no text's size is; the far ones have a size in their lowest bits.
var noSizes = []int{-1, -2, 2001, 2002, -2000, 65536, 1 << 32, 1<<32 + 5, -(1 << 32), -(1 << 32) + 5, math.MaxInt, math.MaxInt - 1, math.MinInt, math.MinInt + 5}

// noParts are pairs of a k and an n that are not so.
func noParts() [][2]int {
	list := [][2]int{{0, 4}, {0, 1}, {0, 16}, {0, 0}, {-1, 4}, {-1, -1}, {-2, -1}, {5, 4}, {2, 1}, {16, 15}, {1, 0}, {1, -1}, {1, 17}, {2, 17}, {16, 17}, {17, 17}, {17, 16}}
	for _, x := range noSides {
		list = append(list, [2]int{x, x}, [2]int{1, x}, [2]int{2, x}, [2]int{x, 16}, [2]int{x, 4})
	}
	return list
}

func checkNoText(t *testing.T, k int, n int, places []int, bodies []string) {
	t.Helper()
	if got, ok := impl.Decode(k, n, places, bodies); ok || got != "" {
		t.Errorf("Decode(%d, %d, %v, %.200q) = %q, %v, want no text", k, n, places, bodies, got, ok)
	}
}

// checkRefused wants neither a text nor bodies.
func checkRefused(t *testing.T, k int, n int, places []int, bodies []string) {
	t.Helper()
	checkNoText(t, k, n, places, bodies)
	if got, ok := impl.Bodies(k, n, places, bodies); ok || len(got) != 0 {
		t.Errorf("Bodies(%d, %d, %v, %.200q) = %.200q, %v, want nothing", k, n, places, bodies, got, ok)
	}
}

// checkBodies wants all bodies to come from those at these places.
func checkBodies(t *testing.T, k int, n int, places []int, all []string) {
	t.Helper()
	if got, ok := impl.Bodies(k, n, places, pickTexts(all, places)); !ok || !slices.Equal(got, all) {
		t.Errorf("Bodies(%d, %d, %v, ..) = %.200q, %v, want %.200q", k, n, places, got, ok, all)
	}
}

// checkText wants the text and all bodies to come from those at these places.
func checkText(t *testing.T, data string, k int, n int, places []int, all []string) {
	t.Helper()
	if got, ok := impl.Decode(k, n, places, pickTexts(all, places)); !ok || got != data {
		t.Errorf("Decode(%d, %d, %v, ..) = %.200q, %v, want %.200q", k, n, places, got, ok, data)
	}
	checkBodies(t, k, n, places, all)
}

func TestCodeMaxData(t *testing.T) {
	if impl.MaxData != 2000 {
		t.Errorf("MaxData is %d", impl.MaxData)
	}
}

func TestCodeBodyLen(t *testing.T) {
	for k := 1; k <= 16; k++ {
		for size := range 2001 {
			got := impl.BodyLen(size, k)
			if got < 1 || k*got < size+2 || k*(got-1) >= size+2 {
				t.Fatalf("BodyLen(%d, %d) = %d", size, k, got)
			}
		}
	}
	for _, c := range [][3]int{{0, 1, 2}, {0, 2, 1}, {0, 3, 1}, {0, 16, 1}, {1, 1, 3}, {1, 2, 2}, {14, 16, 1}, {15, 16, 2}, {2000, 1, 2002}, {2000, 2, 1001}, {2000, 16, 126}, {1998, 16, 125}, {1999, 16, 126}} {
		if got := impl.BodyLen(c[0], c[1]); got != c[2] {
			t.Errorf("BodyLen(%d, %d) = %d, want %d", c[0], c[1], got, c[2])
		}
	}
}

func TestCodeBodyLenRefuses(t *testing.T) {
	for _, size := range noSizes {
		for _, k := range append([]int{1, 2, 3, 15, 16}, noSides...) {
			if got := impl.BodyLen(size, k); got != -1 {
				t.Errorf("BodyLen(%d, %d) = %d, want -1", size, k, got)
			}
		}
	}
	for _, k := range noSides {
		for _, size := range []int{0, 1, 2, 14, 1999, 2000} {
			if got := impl.BodyLen(size, k); got != -1 {
				t.Errorf("BodyLen(%d, %d) = %d, want -1", size, k, got)
			}
		}
	}
}

func TestCodeEncodeByMeaning(t *testing.T) {
	d := drawer(50)
	for n := 1; n <= 16; n++ {
		for k := 1; k <= n; k++ {
			for _, size := range []int{0, 1, 2, 3, k, 2*k - 2 + k%2, 3*k - 1, 255, 256, 257, 300 + d.below(100)} {
				data := d.text(size)
				got, ok := impl.Encode(data, k, n)
				if !ok || !slices.Equal(got, longEncode(data, k, n)) {
					t.Fatalf("Encode(%q, %d, %d) = %q, %v", data, k, n, got, ok)
				}
				for _, body := range got {
					if len(body) != impl.BodyLen(size, k) {
						t.Fatalf("a body of %d bytes has %d, not %d", size, len(body), impl.BodyLen(size, k))
					}
				}
			}
		}
	}
}

func TestCodeEncodeWrittenOut(t *testing.T) {
	for _, c := range []struct {
		data string
		k    int
		n    int
		want []string
	}{
		{"", 1, 1, []string{"\x00\x00"}},
		{"", 2, 2, []string{"\x00", "\x00"}},
		{"", 2, 4, []string{"\x00", "\x00", "\x00", "\x00"}},
		{"", 3, 3, []string{"\x00", "\x00", "\x00"}},
		{"a", 1, 1, []string{"\x00\x01a"}},
		{"a", 3, 3, []string{"\x00", "\x01", "a"}},
		{"a", 2, 2, []string{"\x00\x01", "a\x00"}},
		{"ab", 4, 4, []string{"\x00", "\x02", "a", "b"}},
		{"abc", 4, 4, []string{"\x00\x03", "ab", "c\x00", "\x00\x00"}},
		{"\x00", 3, 3, []string{"\x00", "\x01", "\x00"}},
		{"ab", 2, 4, []string{"\x00\x02", "ab", "\xd4\xd4", "\xbe\xc4"}},
		{"a", 1, 3, []string{"\x00\x01a", "\x00\x01a", "\x00\x8e\xbe"}},
	} {
		if got, ok := impl.Encode(c.data, c.k, c.n); !ok || !slices.Equal(got, c.want) {
			t.Errorf("Encode(%q, %d, %d) = %q, %v, want %q", c.data, c.k, c.n, got, ok, c.want)
		}
	}
	wide := strings.Repeat("x", 513)
	if got, ok := impl.Encode(wide, 1, 1); !ok || len(got) != 1 || got[0] != "\x02\x01"+wide {
		t.Errorf("Encode of 513 bytes = %.20q, %v: the higher byte is not first", got, ok)
	}
}

func TestCodeGreatestTexts(t *testing.T) {
	d := drawer(51)
	for _, c := range [][2]int{{1, 1}, {1, 2}, {1, 16}, {2, 3}, {3, 7}, {8, 16}, {11, 13}, {15, 16}, {16, 16}} {
		k, n := c[0], c[1]
		for _, data := range []string{d.text(1999), d.text(2000), strings.Repeat("\x00", 2000), strings.Repeat("\xff", 2000)} {
			all, ok := impl.Encode(data, k, n)
			if !ok || !slices.Equal(all, longEncode(data, k, n)) || !impl.Agree(k, n, all) {
				t.Fatalf("Encode of %d bytes, %d, %d: %v", len(data), k, n, ok)
			}
			checkText(t, data, k, n, d.order(n)[:k], all)
		}
		for _, data := range []string{d.text(2001), d.text(2002), d.text(4000), d.text(65536), d.text(65536 + 5), d.text(70000)} {
			if got, ok := impl.Encode(data, k, n); ok || len(got) != 0 {
				t.Errorf("Encode of %d bytes, %d, %d is not refused", len(data), k, n)
			}
		}
	}
}

func TestCodeEncodeRefuses(t *testing.T) {
	d := drawer(52)
	for _, pair := range noParts() {
		for _, data := range []string{"", "a", "farstore", d.text(2000), d.text(2001)} {
			if got, ok := impl.Encode(data, pair[0], pair[1]); ok || len(got) != 0 {
				t.Errorf("Encode(%.20q, %d, %d) = %.200q, %v, want nothing", data, pair[0], pair[1], got, ok)
			}
		}
	}
}

func TestCodeAnyBodiesAreEnough(t *testing.T) {
	d := drawer(53)
	for n := 1; n <= 10; n++ {
		for k := 1; k <= n; k++ {
			data := d.text(d.below(3 * k))
			all, ok := impl.Encode(data, k, n)
			if !ok {
				t.Fatalf("Encode(%q, %d, %d) is refused", data, k, n)
			}
			for set := range 1 << n {
				places := placesOf(set)
				if len(places) != k {
					continue
				}
				checkText(t, data, k, n, places, all)
				slices.Reverse(places)
				checkText(t, data, k, n, places, all)
			}
		}
	}
}

// placesOf are the places of the bits that are set.
func placesOf(set int) []int {
	var places []int
	for place := range 16 {
		if set>>place&1 == 1 {
			places = append(places, place)
		}
	}
	return places
}

func TestCodePlacesInAnyOrder(t *testing.T) {
	d := drawer(54)
	for n := 1; n <= 16; n++ {
		for k := 1; k <= n; k++ {
			data := d.text(d.below(5 * k))
			all := longEncode(data, k, n)
			last := make([]int, k)
			for i := range last {
				last[i] = n - 1 - i
			}
			checkText(t, data, k, n, last, all)
			for range 12 {
				checkText(t, data, k, n, d.order(n)[:k], all)
			}
		}
	}
	all := longEncode("any order will do", 4, 6)
	for set := range 1 << 6 {
		if places := placesOf(set); len(places) == 4 {
			eachOrder(places, 0, func() { checkText(t, "any order will do", 4, 6, places, all) })
		}
	}
}

// eachOrder brings the list into each order once.
func eachOrder(list []int, from int, see func()) {
	if from == len(list) {
		see()
		return
	}
	for i := from; i < len(list); i++ {
		list[from], list[i] = list[i], list[from]
		eachOrder(list, from+1, see)
		list[from], list[i] = list[i], list[from]
	}
}

func TestCodeTextsThatLookLikeNoughtsBehind(t *testing.T) {
	d := drawer(55)
	for k := 1; k <= 5; k++ {
		for size := range 3*k + 2 {
			for _, data := range []string{strings.Repeat("\x00", size), strings.Repeat("\xff", size), d.text(size)} {
				all := longEncode(data, k, k+2)
				for range 4 {
					checkText(t, data, k, k+2, d.order(k + 2)[:k], all)
				}
			}
		}
	}
}

func TestCodeAgree(t *testing.T) {
	d := drawer(56)
	for n := 1; n <= 16; n++ {
		for k := 1; k <= n; k++ {
			all := longEncode(d.text(d.below(4*k)), k, n)
			if !impl.Agree(k, n, all) {
				t.Fatalf("Agree(%d, %d, %q) is false", k, n, all)
			}
			for i, body := range all {
				for place := range body {
					other := withTextAt(all, i, changed(body, place, 1+d.below(255)))
					if impl.Agree(k, n, other) != (n == k) {
						t.Fatalf("Agree(%d, %d, ..) with byte %d of body %d changed is %v", k, n, place, i, n != k)
					}
				}
			}
		}
	}
}

func TestCodeAgreeWithEachChangeOfAByte(t *testing.T) {
	for _, c := range [][2]int{{1, 2}, {2, 3}, {3, 5}, {4, 5}} {
		all := longEncode("each change", c[0], c[1])
		for i, body := range all {
			for by := 1; by < 256; by++ {
				for place := range body {
					if impl.Agree(c[0], c[1], withTextAt(all, i, changed(body, place, by))) {
						t.Fatalf("%v: a byte of body %d changed by %d, and they agree", c, i, by)
					}
				}
			}
		}
	}
}

func TestCodeAgreeWithAsManyAsAreEnough(t *testing.T) {
	d := drawer(57)
	for k := 1; k <= 16; k++ {
		for length := 1; length <= 3; length++ {
			bodies := longCut(d.text(k*length), k, length)
			if !impl.Agree(k, k, bodies) {
				t.Errorf("Agree(%d, %d, %q) is false, though none is behind the first ones", k, k, bodies)
			}
		}
	}
}

func TestCodeAgreeRefuses(t *testing.T) {
	all := longEncode("farstore keeps it", 3, 5)
	length := len(all[0])
	if !impl.Agree(3, 5, all) {
		t.Fatalf("Agree(3, 5, %q) is false", all)
	}
	long := make([]string, 5)
	for i, body := range all {
		long[i] = body + body
	}
	bad := [][]string{nil, {}, all[:4], all[:3], all[:1], slices.Concat(all, all[:1]), slices.Concat(all, all), slices.Concat(all, []string{""}), {"", "", "", "", ""}, make([]string, 16), make([]string, 17)}
	for i := range all {
		bad = append(bad, withTextAt(all, i, ""), withTextAt(all, i, all[i][:length-1]), withTextAt(all, i, all[i]+"\x00"), withTextAt(all, i, long[i]))
		bad = append(bad, slices.Delete(slices.Clone(all), i, i+1), withTextAt(long, i, all[i]))
	}
	for _, bodies := range bad {
		if impl.Agree(3, 5, bodies) {
			t.Errorf("Agree(3, 5, %q) is true", bodies)
		}
	}
	for _, pair := range noParts() {
		for count := range 18 {
			if impl.Agree(pair[0], pair[1], slices.Repeat([]string{"\x00"}, count)) {
				t.Errorf("Agree(%d, %d, ..) of %d bodies is true", pair[0], pair[1], count)
			}
		}
	}
	if impl.Agree(2, 5, all) || impl.Agree(4, 5, all) || impl.Agree(3, 6, all) || impl.Agree(3, 4, all) || !impl.Agree(3, 4, all[:4]) || !impl.Agree(3, 3, all[:3]) {
		t.Error("Agree does not go by k and n")
	}
}

func TestCodeAgreeInTheirOrder(t *testing.T) {
	all := longEncode("in their order", 3, 6)
	for i := range all {
		for j := range i {
			other := slices.Clone(all)
			other[i], other[j] = other[j], other[i]
			if impl.Agree(3, 6, other) {
				t.Errorf("bodies %d and %d changed for each other agree", i, j)
			}
		}
	}
}

// tellsText is what Decode must answer of a whole, by the meaning: some size gives it.
func tellsText(whole string, k int) (string, bool) {
	for size := 0; size <= 2000 && size+2 <= len(whole); size++ {
		data := whole[2 : 2+size]
		if strings.Join(longEncode(data, k, k), "") == whole {
			return data, true
		}
	}
	return "", false
}

// checkWhole wants what these bytes tell, and nothing else, from the first places and from others.
func checkWhole(t *testing.T, d *drawer, whole string, k int, n int, want string, wantOk bool) {
	t.Helper()
	all := longWhole(whole, k, n, len(whole)/k)
	first := make([]int, k)
	for i := range first {
		first[i] = i
	}
	for _, places := range [][]int{first, d.order(n)[:k], d.order(n)[:k]} {
		if wantOk {
			checkText(t, want, k, n, places, all)
			continue
		}
		checkNoText(t, k, n, places, pickTexts(all, places))
		checkBodies(t, k, n, places, all)
	}
	if !impl.Agree(k, n, all) {
		t.Errorf("Agree(%d, %d, ..) of what %.100q tells is false", k, n, whole)
	}
}

func TestCodeSizesThatAreTold(t *testing.T) {
	d := drawer(58)
	for k := 1; k <= 16; k++ {
		for length := 1; length <= 4; length++ {
			for size := range 70 {
				if k*length < 2 {
					continue
				}
				whole := longHead(size) + strings.Repeat("\x00", k*length-2)
				fits := size+2 <= k*length && size+2 > k*(length-1)
				if want, ok := tellsText(whole, k); ok != fits || ok && len(want) != size {
					t.Fatalf("size %d, %d bodies of %d: the test's own reckoning differs", size, k, length)
				}
				checkWhole(t, &d, whole, k, min(k+3, 16), strings.Repeat("\x00", max(0, min(size, k*length-2))), fits)
			}
		}
	}
}

func TestCodeSizesThatNoTextHas(t *testing.T) {
	d := drawer(59)
	for _, k := range []int{1, 2, 3, 11, 13, 16} {
		for _, size := range []int{2000, 2001, 2002, 2013, 2014, 2015, 2048, 4096, 65535} {
			for _, length := range []int{(size + 2 + k - 1) / k, 1, 2, 3, 2002 / k, 2003/k + 1} {
				if k*length < 2 {
					continue
				}
				whole := longHead(size) + strings.Repeat("\x00", k*length-2)
				fits := size == 2000 && length == (2002+k-1)/k
				checkWhole(t, &d, whole, k, min(k+1, 16), strings.Repeat("\x00", 2000), fits)
			}
		}
	}
}

func TestCodeNotNoughtsBehindTheText(t *testing.T) {
	d := drawer(60)
	for k := 2; k <= 16; k++ {
		for size := range 2*k + 2 {
			data := d.text(size)
			whole := strings.Join(longEncode(data, k, k), "")
			n := min(k+2, 16)
			checkWhole(t, &d, whole, k, n, data, true)
			for place := size + 2; place < len(whole); place++ {
				checkWhole(t, &d, changed(whole, place, 1+d.below(255)), k, n, "", false)
			}
			for place := 2; place < size+2; place++ {
				other := changed(whole, place, 1+d.below(255))
				checkWhole(t, &d, other, k, n, other[2:2+size], true)
			}
		}
	}
}

func TestCodeBodiesThatTellNoText(t *testing.T) {
	d := drawer(61)
	for x := range 256 {
		one := []string{string([]byte{byte(x)})}
		checkNoText(t, 1, 1, []int{0}, one)
		if got, ok := impl.Bodies(1, 1, []int{0}, one); !ok || !slices.Equal(got, one) {
			t.Errorf("Bodies of one byte %d = %q, %v", x, got, ok)
		}
		checkWhole(t, &d, one[0], 1, 4, "", false)
	}
	for range 400 {
		n := 1 + d.below(16)
		k := 1 + d.below(n)
		whole := d.text(k * (1 + d.below(6)))
		if d.below(2) == 0 && len(whole) > 1 {
			whole = "\x00" + string([]byte{byte(d.below(len(whole)))}) + whole[2:]
		}
		want, ok := tellsText(whole, k)
		checkWhole(t, &d, whole, k, n, want, ok)
	}
}

func TestCodeBodiesLongerThanAnyText(t *testing.T) {
	d := drawer(62)
	for _, c := range [][3]int{{1, 1, 70000}, {1, 3, 5000}, {2, 4, 2500}, {3, 5, 40000}, {16, 16, 127}, {15, 16, 200}} {
		k, n, length := c[0], c[1], c[2]
		checkWhole(t, &d, d.text(k*length), k, n, "", false)
		checkWhole(t, &d, longHead(2000)+strings.Repeat("\x00", k*length-2), k, n, "", false)
		checkWhole(t, &d, strings.Repeat("\x00", k*length), k, n, "", false)
	}
}

func TestCodeWrongPlaces(t *testing.T) {
	k, n := 3, 5
	all := longEncode("which places", k, n)
	some := all[:3]
	checkText(t, "which places", k, n, []int{0, 1, 2}, all)
	bad := [][]int{nil, {}, {0}, {0, 1}, {0, 1, 2, 3}, {0, 1, 2, 2}, {0, 1, 2, 3, 4}, make([]int, 3), make([]int, 16), make([]int, 17), make([]int, 3000), {0, 0, 1}, {0, 1, 0}, {1, 0, 0}, {4, 4, 1}, {4, 1, 4}, {4, 4, 4}, {3, 3, 0}, {2, 1, 2}}
	for _, x := range []int{-1, 5, 6, 16, 255, 256, -5, 1 << 32, -(1 << 32), 1<<32 + 1, math.MaxInt, math.MinInt, math.MinInt + 1} {
		bad = append(bad, []int{x, 1, 2}, []int{0, x, 2}, []int{0, 1, x}, []int{x, x, x}, []int{x, x - 1, x + 1}, []int{0, 1, 2, x}, []int{x, 0, 1, 2})
	}
	for _, places := range bad {
		checkRefused(t, k, n, places, some)
		checkRefused(t, k, n, places, all)
		checkRefused(t, k, n, places, slices.Repeat(some, len(places)/3+1)[:len(places)])
		checkRefused(t, k, n, places, slices.Repeat([]string{"\x00"}, len(places)))
		checkRefused(t, k, n, places, nil)
	}
	for k := 1; k <= 16; k++ {
		places := make([]int, k)
		for i := range places {
			places[i] = i
		}
		noughts := slices.Repeat([]string{"\x00\x00"}, k)
		checkRefused(t, k, 16, append(slices.Clone(places[1:]), 16), noughts)
		checkRefused(t, k, 16, append(slices.Clone(places[1:]), -1), noughts)
		checkRefused(t, k, k, append(slices.Clone(places[1:]), k), noughts)
		if k > 1 {
			checkRefused(t, k, 16, append(slices.Clone(places[1:]), 1), noughts)
			checkRefused(t, k, 16, places[1:], noughts[1:])
		}
	}
}

func TestCodeWrongBodies(t *testing.T) {
	k, n, places := 3, 5, []int{4, 0, 2}
	all := longEncode("which bodies", k, n)
	some := pickTexts(all, places)
	length := len(some[0])
	bad := [][]string{nil, {}, some[:1], some[:2], slices.Concat(some, some[:1]), slices.Concat(some, []string{""}), all, slices.Concat(all, all), {"", "", ""}, make([]string, 4), make([]string, 17)}
	for i := range some {
		bad = append(bad, withTextAt(some, i, ""), withTextAt(some, i, some[i][:length-1]), withTextAt(some, i, some[i][:1]), withTextAt(some, i, some[i]+"\x00"), withTextAt(some, i, some[i]+some[i]))
		for j := range i { // as many bytes in all, but not the same of each
			other := withTextAt(some, i, some[i][:length-1])
			other[j] += "\x00"
			bad = append(bad, other)
		}
	}
	for _, bodies := range bad {
		checkRefused(t, k, n, places, bodies)
		checkRefused(t, k, n, []int{0, 1, 2}, bodies)
	}
	checkRefused(t, 1, 1, []int{0}, []string{""})
	checkRefused(t, 1, 1, []int{0}, nil)
	checkRefused(t, 1, 1, nil, nil)
	checkRefused(t, 1, 1, nil, []string{"\x00\x00"})
	checkRefused(t, 1, 1, []int{0, 0}, []string{"\x00\x00", "\x00\x00"})
}

func TestCodeWrongPartsOfBodies(t *testing.T) {
	for _, pair := range noParts() {
		for count := range 18 {
			places := make([]int, count)
			for i := range places {
				places[i] = i
			}
			checkRefused(t, pair[0], pair[1], places, slices.Repeat([]string{"\x00\x00"}, count))
			checkRefused(t, pair[0], pair[1], nil, slices.Repeat([]string{"\x00\x00"}, count))
			checkRefused(t, pair[0], pair[1], places, nil)
		}
	}
}

func TestCodeOtherPartsTellOtherBodies(t *testing.T) {
	all := longEncode("k and n tell", 3, 6)
	got, ok := impl.Bodies(2, 6, []int{0, 1}, all[:2])
	if !ok || !slices.Equal(got, longRows(longSpread(2, 6), all[:2])) {
		t.Errorf("Bodies of two of three = %q, %v", got, ok)
	}
	for n := 4; n <= 16; n++ {
		whole := longEncode("k and n tell", 3, n)
		if got, ok := impl.Bodies(3, n, []int{3, 1, 0}, pickTexts(all, []int{3, 1, 0})); !ok || !slices.Equal(got, whole) {
			t.Errorf("Bodies(3, %d, ..) = %q, %v", n, got, ok)
		}
	}
}

// roomyTexts is the list with spare room behind it, and all of its memory.
func roomyTexts(list []string) ([]string, []string) {
	whole := append(slices.Clone(list), "spare room", "more of it", "", "")
	return whole[:len(list)], whole
}

func TestCodeWritesIntoNoList(t *testing.T) {
	d := drawer(63)
	for range 200 {
		n := 1 + d.below(16)
		k := 1 + d.below(n)
		all := longEncode(d.text(d.below(60)), k, n)
		order := d.order(n)[:k]
		if d.below(4) == 0 {
			order[d.below(k)] = d.below(20) - 2 // maybe none, maybe one twice
		}
		picked := longCut(d.text(k*3), k, 3)
		if d.below(2) == 0 && slices.Max(order) < n && slices.Min(order) >= 0 {
			picked = pickTexts(all, order)
		}
		places, memoryPlaces := withRoom(order)
		some, memorySome := roomyTexts(picked)
		full, memoryFull := roomyTexts(all)
		kept, keptSome, keptFull := slices.Clone(memoryPlaces), slices.Clone(memorySome), slices.Clone(memoryFull)
		impl.Decode(k, n, places, some)
		impl.Decode(k, n, places, full)
		impl.Agree(k, n, full)
		impl.Agree(k, n, some)
		for _, bodies := range [][]string{some, full} {
			answer, _ := impl.Bodies(k, n, places, bodies)
			for i := range answer[:cap(answer)] {
				answer[:cap(answer)][i] = "written over"
			}
		}
		if !slices.Equal(memoryPlaces, kept) || !slices.Equal(memorySome, keptSome) || !slices.Equal(memoryFull, keptFull) {
			t.Fatalf("%d, %d: an argument or the room behind it was written into", k, n)
		}
	}
}

// checkOwnTexts wants texts of two bytes or more (one byte stands for itself everywhere) to lie in memory of their own.
func checkOwnTexts(t *testing.T, answer []string, arguments []string) {
	t.Helper()
	for i, text := range answer {
		for _, other := range slices.Concat(answer[i+1:], arguments) {
			if len(text) > 1 && sharesMemory(text, other) {
				t.Fatalf("%.40q shares memory with %.40q", text, other)
			}
		}
	}
}

func TestCodeAnswersAreNewMemory(t *testing.T) {
	d := drawer(64)
	for n := 1; n <= 16; n++ {
		for k := 1; k <= n; k++ {
			for _, data := range []string{d.text(2 * k), d.text(40), strings.Repeat("\x00", 40)} {
				all, _ := impl.Encode(data, k, n)
				checkOwnTexts(t, all, []string{data})
				places := d.order(n)[:k]
				some := pickTexts(all, places)
				again, ok := impl.Bodies(k, n, places, some)
				text, okText := impl.Decode(k, n, places, some)
				if !ok || !okText || text != data {
					t.Fatalf("%d, %d, %v: %q, %v, %v", k, n, places, text, ok, okText)
				}
				checkOwnTexts(t, again, append(slices.Clone(all), text))
				checkOwnTexts(t, []string{text}, all)
			}
		}
	}
}

func TestCodeTakesOneListTwice(t *testing.T) {
	same := strings.Clone("one and the same")
	bodies := []string{same, same, same}
	got, ok := impl.Bodies(3, 5, []int{4, 1, 3}, bodies)
	if !ok || got[4] != same || got[1] != same || got[3] != same || !impl.Agree(3, 5, got) {
		t.Errorf("Bodies of one text three times = %q, %v", got, ok)
	}
	checkOwnTexts(t, got, bodies)
	if again, _ := impl.Bodies(3, 5, []int{0, 1, 2}, got[:3]); !slices.Equal(again, got) {
		t.Errorf("Bodies of the first three = %q, want %q", again, got)
	}
}

func TestCodeKeepsNothing(t *testing.T) {
	for range 3 {
		first, _ := impl.Encode("kept by nobody", 3, 6)
		impl.Encode("another text", 2, 16)
		impl.Decode(3, 6, []int{5, 4, 3}, withTextAt(first[3:], 0, "other text"))
		second, _ := impl.Encode("kept by nobody", 3, 6)
		if !slices.Equal(first, second) {
			t.Fatalf("Encode answers %q, then %q", first, second)
		}
		for i := range first {
			first[i] = ""
		}
		if third, _ := impl.Encode("kept by nobody", 3, 6); !slices.Equal(third, second) {
			t.Fatalf("what was written into an answer is in the next one: %q", third)
		}
	}
}
