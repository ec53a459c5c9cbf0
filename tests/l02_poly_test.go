package tests

import (
	"fmt"
	"math"
	"slices"
	"strings"
	"testing"
	"unsafe"

	"loop.example/g00210/impl"
)

// drawer tells numbers that look like chance but are the same at every run.
type drawer uint64

func (d *drawer) below(n int) int {
	*d = *d*6364136223846793005 + 1442695040888963407
	return int(uint64(*d) >> 33 % uint64(n))
}

func (d *drawer) bytes(count int) []int {
	list := make([]int, count)
	for i := range list {
		list[i] = d.below(256)
	}
	return list
}

// poly draws a polynomial of just that many numbers.
func (d *drawer) poly(count int) []int {
	p := d.bytes(count)
	if count > 0 {
		p[count-1] = 1 + d.below(255)
	}
	return p
}

// places draws that many byte numbers of which no two are alike.
func (d *drawer) places(count int) []int {
	all := make([]int, 256)
	for i := range all {
		all[i] = i
	}
	for i := range count {
		j := i + d.below(256-i)
		all[i], all[j] = all[j], all[i]
	}
	return slices.Clone(all[:count])
}

// longValue is the value at x by powers, apart from the program.
func longValue(p []int, x int) int {
	value := 0
	for n, c := range p {
		value ^= longProduct(c, longPower(x, n))
	}
	return value
}

// polyOf is a polynomial of count numbers that are all 0 but the last, which is last.
func polyOf(count int, last int) []int {
	p := make([]int, count)
	p[count-1] = last
	return p
}

func sharesInts(a []int, b []int) bool {
	a, b = a[:cap(a)], b[:cap(b)]
	if len(a) == 0 || len(b) == 0 {
		return false
	}
	const size = unsafe.Sizeof(int(0))
	startA, startB := uintptr(unsafe.Pointer(&a[0])), uintptr(unsafe.Pointer(&b[0]))
	return startA < startB+uintptr(len(b))*size && startB < startA+uintptr(len(a))*size
}

// notPolys are lists that are no polynomials, each for one reason.
func notPolys() [][]int {
	list := [][]int{{0}, {1, 0}, {0, 0}, {5, 6, 0}, polyOf(41, 1), polyOf(100, 255), make([]int, 40), make([]int, 41)}
	for _, x := range noBytes {
		list = append(list, []int{x}, []int{x, 1}, []int{1, x}, []int{1, x, 1})
		full := polyOf(40, 1)
		full[20] = x
		list = append(list, full)
	}
	return list
}

// somePolys are of all lengths, those of the edges among them.
func somePolys() [][]int {
	d := drawer(2)
	list := [][]int{nil, {}, {1}, {255}, {0, 1}, {1, 1}, {0, 0, 0, 7}, polyOf(40, 1), polyOf(39, 255)}
	for count := range 41 {
		list = append(list, d.poly(count))
	}
	return list
}

func TestPolyLimit(t *testing.T) {
	if impl.MaxPoly != 40 {
		t.Errorf("MaxPoly is %d", impl.MaxPoly)
	}
}

func TestPolyOkTellsPolynomials(t *testing.T) {
	for _, p := range somePolys() {
		if !impl.PolyOk(p) {
			t.Errorf("%v is a polynomial", p)
		}
	}
	for _, p := range notPolys() {
		if impl.PolyOk(p) {
			t.Errorf("%v is no polynomial", p)
		}
	}
}

func TestPolyTrim(t *testing.T) {
	for _, c := range []struct{ p, want []int }{
		{nil, nil}, {[]int{}, nil}, {[]int{0}, nil}, {[]int{0, 0, 0}, nil}, {make([]int, 500), nil},
		{[]int{1}, []int{1}}, {[]int{1, 0}, []int{1}}, {[]int{0, 1}, []int{0, 1}}, {[]int{0, 1, 0, 0}, []int{0, 1}},
		{[]int{1, 0, 2, 0}, []int{1, 0, 2}}, {append(polyOf(40, 3), 0, 0), polyOf(40, 3)}, {append(polyOf(90, 3), 0), polyOf(90, 3)},
		{[]int{-1, 0}, []int{-1}}, {[]int{256, 0, 0}, []int{256}}, {[]int{1 << 32, 0}, []int{1 << 32}}, {[]int{1, math.MinInt, 0}, []int{1, math.MinInt}},
	} {
		kept := slices.Clone(c.p)
		got := impl.PolyTrim(c.p)
		if !slices.Equal(got, c.want) {
			t.Errorf("PolyTrim(%v) = %v, want %v", c.p, got, c.want)
		}
		if !slices.Equal(c.p, kept) || sharesInts(got, c.p) {
			t.Errorf("PolyTrim(%v) writes into or hands out its argument", kept)
		}
	}
}

func TestPolySumsHaveTheValuesSums(t *testing.T) {
	for _, a := range somePolys() {
		for _, b := range somePolys() {
			sum, ok := impl.PolyAdd(a, b)
			if !ok || !impl.PolyOk(sum) || len(sum) > max(len(a), len(b)) {
				t.Fatalf("PolyAdd(%v, %v) = %v, %v", a, b, sum, ok)
			}
			for place := range 40 {
				want := 0
				if place < len(a) {
					want ^= a[place]
				}
				if place < len(b) {
					want ^= b[place]
				}
				got := 0
				if place < len(sum) {
					got = sum[place]
				}
				if got != want {
					t.Fatalf("PolyAdd(%v, %v) = %v", a, b, sum)
				}
			}
		}
	}
	d := drawer(21)
	for count := range 41 {
		a, b := d.poly(count), d.poly(40-count)
		sum, _ := impl.PolyAdd(a, b)
		for x := range 256 {
			if longValue(sum, x) != longValue(a, x)^longValue(b, x) {
				t.Fatalf("PolyAdd(%v, %v) = %v has another value at %d", a, b, sum, x)
			}
		}
	}
}

func TestPolySumsLoseTheirNoughts(t *testing.T) {
	for _, c := range []struct{ a, b, want []int }{
		{nil, nil, nil}, {[]int{7}, nil, []int{7}}, {nil, []int{0, 7}, []int{0, 7}},
		{[]int{7}, []int{7}, nil}, {[]int{1, 2, 3}, []int{1, 2, 3}, nil}, {[]int{1, 2, 3}, []int{4, 2, 3}, []int{5}},
		{[]int{1, 2, 3}, []int{1, 5, 3}, []int{0, 7}}, {[]int{1, 2}, []int{1, 2, 3}, []int{0, 0, 3}},
		{polyOf(40, 9), polyOf(40, 9), nil}, {polyOf(40, 9), polyOf(40, 8), polyOf(40, 1)}, {polyOf(40, 9), []int{5}, append([]int{5}, polyOf(39, 9)...)},
	} {
		got, ok := impl.PolyAdd(c.a, c.b)
		if !ok || !slices.Equal(got, c.want) {
			t.Errorf("PolyAdd(%v, %v) = %v, %v, want %v", c.a, c.b, got, ok, c.want)
		}
	}
}

func TestPolyProductsHaveTheValuesProducts(t *testing.T) {
	d := drawer(3)
	for la := range 41 {
		for lb := 0; lb <= 41-la && lb <= 40; lb++ {
			a, b := d.poly(la), d.poly(lb)
			got, ok := impl.PolyMul(a, b)
			if !ok || !impl.PolyOk(got) {
				t.Fatalf("PolyMul(%v, %v) = %v, %v", a, b, got, ok)
			}
			if (la == 0 || lb == 0) && len(got) != 0 || la > 0 && lb > 0 && len(got) != la+lb-1 {
				t.Fatalf("PolyMul of %d and %d numbers has %d", la, lb, len(got))
			}
			for x := la % 7; x < 256; x += 7 {
				if longValue(got, x) != longProduct(longValue(a, x), longValue(b, x)) {
					t.Fatalf("PolyMul(%v, %v) = %v has another value at %d", a, b, got, x)
				}
			}
		}
	}
	for _, pair := range [][2]int{{1, 40}, {40, 1}, {20, 21}, {7, 5}} {
		a, b := d.poly(pair[0]), d.poly(pair[1])
		got, _ := impl.PolyMul(a, b)
		for x := range 256 {
			if longValue(got, x) != longProduct(longValue(a, x), longValue(b, x)) {
				t.Fatalf("PolyMul(%v, %v) = %v has another value at %d", a, b, got, x)
			}
		}
	}
}

func TestPolyProductsAtTheLimit(t *testing.T) {
	for la := 1; la <= 40; la++ {
		a, b := polyOf(la, 3), polyOf(41-la, 7)
		if got, ok := impl.PolyMul(a, b); !ok || !slices.Equal(got, polyOf(40, 9)) {
			t.Errorf("PolyMul of %d and %d numbers = %v, %v", la, 41-la, got, ok)
		}
		if la == 1 {
			continue
		}
		if got, ok := impl.PolyMul(a, polyOf(42-la, 7)); ok || len(got) != 0 {
			t.Errorf("PolyMul of %d and %d numbers = %v, %v, want nothing", la, 42-la, got, ok)
		}
	}
	if got, ok := impl.PolyMul(polyOf(40, 1), polyOf(40, 1)); ok || len(got) != 0 {
		t.Errorf("PolyMul of 40 and 40 numbers = %v, %v, want nothing", got, ok)
	}
	for _, p := range [][]int{nil, {1}, {0, 1}, polyOf(40, 1)} {
		one, okOne := impl.PolyMul(p, nil)
		two, okTwo := impl.PolyMul(nil, p)
		if !okOne || !okTwo || len(one) != 0 || len(two) != 0 {
			t.Errorf("PolyMul of %v and the empty one = %v, %v", p, one, two)
		}
	}
}

func TestPolyDivisionGoesBack(t *testing.T) {
	for _, a := range somePolys() {
		for _, b := range somePolys() {
			q, r, ok := impl.PolyDiv(a, b)
			if len(b) == 0 {
				if ok || len(q) != 0 || len(r) != 0 {
					t.Fatalf("PolyDiv(%v, nothing) = %v, %v, %v", a, q, r, ok)
				}
				continue
			}
			if !ok || !impl.PolyOk(q) || !impl.PolyOk(r) || len(r) >= len(b) {
				t.Fatalf("PolyDiv(%v, %v) = %v, %v, %v", a, b, q, r, ok)
			}
			if sharesInts(q, r) || sharesInts(q, a) || sharesInts(q, b) || sharesInts(r, a) || sharesInts(r, b) {
				t.Fatalf("PolyDiv(%v, %v) shares memory", a, b)
			}
			if !slices.Equal(timesPlus(q, b, r), impl.PolyTrim(a)) {
				t.Fatalf("PolyDiv(%v, %v) = %v, %v does not go back", a, b, q, r)
			}
		}
	}
}

// timesPlus is a times b and c, apart from the program, without noughts at the end.
func timesPlus(a []int, b []int, c []int) []int {
	sum := make([]int, len(a)+len(b)+len(c))
	copy(sum, c)
	for i, x := range a {
		for j, y := range b {
			sum[i+j] ^= longProduct(x, y)
		}
	}
	for len(sum) > 0 && sum[len(sum)-1] == 0 {
		sum = sum[:len(sum)-1]
	}
	return sum
}

func TestPolyDivisionEdges(t *testing.T) {
	for _, c := range []struct{ a, b, q, r []int }{
		{nil, []int{1}, nil, nil}, {nil, []int{1, 1}, nil, nil},
		{[]int{5}, []int{1, 1}, nil, []int{5}}, {[]int{1, 2}, []int{1, 2, 3}, nil, []int{1, 2}}, {polyOf(39, 1), polyOf(40, 1), nil, polyOf(39, 1)},
		{[]int{9}, []int{7}, []int{3}, nil}, {[]int{9, 0, 9}, []int{7}, []int{3, 0, 3}, nil}, {polyOf(40, 9), []int{3}, polyOf(40, 7), nil},
		{[]int{1, 0, 1}, []int{1, 1}, []int{1, 1}, nil}, {[]int{4, 0, 1}, []int{1, 1}, []int{1, 1}, []int{5}},
		{[]int{4, 3, 2}, []int{0, 0, 2}, []int{1}, []int{4, 3}}, {polyOf(40, 1), polyOf(40, 2), []int{142}, nil},
		{polyOf(40, 1), polyOf(2, 1), polyOf(39, 1), nil}, {[]int{0, 0, 1}, []int{0, 0, 0, 1}, nil, []int{0, 0, 1}},
	} {
		q, r, ok := impl.PolyDiv(c.a, c.b)
		if !ok || !slices.Equal(q, c.q) || !slices.Equal(r, c.r) {
			t.Errorf("PolyDiv(%v, %v) = %v, %v, %v, want %v, %v", c.a, c.b, q, r, ok, c.q, c.r)
		}
	}
}

func TestPolyRefusesWhatIsNone(t *testing.T) {
	good := [][]int{nil, {1}, {3, 4, 5}, polyOf(40, 1)}
	for _, bad := range notPolys() {
		for _, other := range append(good, bad) {
			for _, pair := range [][2][]int{{bad, other}, {other, bad}} {
				if s, ok := impl.PolyAdd(pair[0], pair[1]); ok || len(s) != 0 {
					t.Errorf("PolyAdd(%v, %v) = %v, %v", pair[0], pair[1], s, ok)
				}
				if p, ok := impl.PolyMul(pair[0], pair[1]); ok || len(p) != 0 {
					t.Errorf("PolyMul(%v, %v) = %v, %v", pair[0], pair[1], p, ok)
				}
				if q, r, ok := impl.PolyDiv(pair[0], pair[1]); ok || len(q) != 0 || len(r) != 0 {
					t.Errorf("PolyDiv(%v, %v) = %v, %v, %v", pair[0], pair[1], q, r, ok)
				}
			}
		}
		for _, x := range []int{0, 1, 255, -1, 256} {
			if got := impl.PolyAt(bad, x); got != -1 {
				t.Errorf("PolyAt(%v, %d) = %d, want -1", bad, x, got)
			}
		}
		if got := impl.PolyText(bad); got != "" {
			t.Errorf("PolyText(%v) = %q, want nothing", bad, got)
		}
	}
}

func TestPolyValues(t *testing.T) {
	for _, p := range somePolys() {
		for x := range 256 {
			if got, want := impl.PolyAt(p, x), longValue(p, x); got != want {
				t.Fatalf("PolyAt(%v, %d) = %d, want %d", p, x, got, want)
			}
		}
		for _, x := range noBytes {
			if got := impl.PolyAt(p, x); got != -1 {
				t.Errorf("PolyAt(%v, %d) = %d, want -1", p, x, got)
			}
		}
	}
}

func TestPolyThroughPlaces(t *testing.T) {
	d := drawer(4)
	for count := range 41 {
		for range 5 {
			xs, ys := d.places(count), d.bytes(count)
			p, ok := impl.Interpolate(xs, ys)
			if !ok || !impl.PolyOk(p) || len(p) > count {
				t.Fatalf("Interpolate(%v, %v) = %v, %v", xs, ys, p, ok)
			}
			for i, x := range xs {
				if longValue(p, x) != ys[i] || impl.PolyAt(p, x) != ys[i] {
					t.Fatalf("Interpolate(%v, %v) = %v misses place %d", xs, ys, p, i)
				}
			}
		}
	}
}

func TestPolyComesBackFromItsValues(t *testing.T) {
	d := drawer(5)
	for count := range 41 {
		p := d.poly(count)
		for _, places := range []int{count, min(count+1, 40), 40} {
			xs := d.places(places)
			ys := make([]int, places)
			for i, x := range xs {
				ys[i] = longValue(p, x)
			}
			if got, ok := impl.Interpolate(xs, ys); !ok || !slices.Equal(got, p) {
				t.Fatalf("of %d places of %v comes %v, %v", places, p, got, ok)
			}
		}
	}
}

func TestPolyThroughPlacesEdges(t *testing.T) {
	forty := drawer(6)
	xs := forty.places(41)
	for _, c := range []struct{ xs, ys, want []int }{
		{nil, nil, nil}, {[]int{}, nil, nil}, {[]int{0}, []int{0}, nil}, {[]int{255}, []int{0}, nil}, {[]int{0}, []int{9}, []int{9}}, {[]int{255}, []int{255}, []int{255}},
		{[]int{0, 1}, []int{5, 5}, []int{5}}, {[]int{0, 1}, []int{0, 1}, []int{0, 1}}, {xs[:40], make([]int, 40), nil}, {xs[:40], xs[:40], []int{0, 1}},
	} {
		if got, ok := impl.Interpolate(c.xs, c.ys); !ok || !slices.Equal(got, c.want) {
			t.Errorf("Interpolate(%v, %v) = %v, %v, want %v", c.xs, c.ys, got, ok, c.want)
		}
	}
}

func TestPolyThroughPlacesRefuses(t *testing.T) {
	d := drawer(7)
	xs, ys := d.places(41), d.bytes(41)
	alike := slices.Clone(xs[:40])
	alike[39] = alike[0]
	bad := []struct{ xs, ys []int }{
		{xs, ys}, {xs, xs}, {xs, make([]int, 41)}, {xs[:40], ys}, {xs, ys[:40]}, {xs[:1], nil}, {nil, ys[:1]}, {xs[:3], ys[:2]}, {xs[:2], ys[:3]},
		{[]int{1, 1}, []int{1, 2}}, {[]int{1, 1}, []int{1, 1}}, {[]int{0, 0}, []int{0, 0}}, {[]int{4, 5, 4}, []int{0, 0, 0}}, {[]int{5, 4, 4}, []int{1, 0, 0}}, {alike, ys[:40]},
	}
	for _, x := range noBytes {
		for place := range 3 {
			wrong := []int{1, 2, 3}
			wrong[place] = x
			bad = append(bad, struct{ xs, ys []int }{wrong, []int{1, 2, 3}}, struct{ xs, ys []int }{[]int{1, 2, 3}, wrong}, struct{ xs, ys []int }{wrong, wrong})
		}
	}
	for _, c := range bad {
		if got, ok := impl.Interpolate(c.xs, c.ys); ok || len(got) != 0 {
			t.Errorf("Interpolate(%v, %v) = %v, %v, want nothing", c.xs, c.ys, got, ok)
		}
	}
}

func TestPolyTexts(t *testing.T) {
	for _, p := range somePolys() {
		want := strings.Trim(fmt.Sprint(p), "[]")
		if len(p) == 0 {
			want = "-"
		}
		if got := impl.PolyText(p); got != want {
			t.Errorf("PolyText(%v) = %q, want %q", p, got, want)
		}
	}
}

func TestPolyWritesIntoNoList(t *testing.T) {
	pairs := [][2][]int{
		{{1, 2, 3}, {4, 5}}, {{4, 5}, {1, 2, 3}}, {{1, 2, 3}, {1, 2, 3}}, {{7}, {}}, {{}, {7}}, {{1, 2, 0}, {1, 2, 3}},
		{{1, 256, 3}, {1, 2, 3}}, {{1, 2, 3}, {1, -1, 3}}, {polyOf(40, 1), polyOf(40, 2)}, {make([]int, 40), {9}}, {{5, 1}, {1}},
	}
	for _, pair := range pairs {
		a, wholeA := withRoom(pair[0])
		b, wholeB := withRoom(pair[1])
		keptA, keptB := slices.Clone(wholeA), slices.Clone(wholeB)
		sum, _ := impl.PolyAdd(a, b)
		times, _ := impl.PolyMul(a, b)
		quotient, rest, _ := impl.PolyDiv(a, b)
		through, _ := impl.Interpolate(a, b)
		answers := [][]int{sum, times, quotient, rest, through, impl.PolyTrim(a), impl.PolyTrim(b)}
		impl.PolyAt(a, 3)
		impl.PolyOk(a)
		impl.PolyText(a)
		for i, answer := range answers {
			if sharesInts(answer, wholeA) || sharesInts(answer, wholeB) {
				t.Errorf("answer %d of %v and %v shares memory with an argument", i, pair[0], pair[1])
			}
			for j := range answer[:cap(answer)] {
				answer[:cap(answer)][j] = 77
			}
		}
		if !slices.Equal(wholeA, keptA) || !slices.Equal(wholeB, keptB) {
			t.Errorf("%v and %v: a list or the room behind it was written into", pair[0], pair[1])
		}
	}
}

// withRoom is the list with spare room behind it that holds 99, and all of its memory.
func withRoom(list []int) ([]int, []int) {
	whole := append(slices.Clone(list), 99, 99, 99, 99)
	return whole[:len(list)], whole
}

func TestPolyTakesOneListTwice(t *testing.T) {
	p := []int{3, 0, 5}
	kept := slices.Clone(p)
	sum, okSum := impl.PolyAdd(p, p)
	square, okSquare := impl.PolyMul(p, p)
	quotient, rest, okDiv := impl.PolyDiv(p, p)
	if !okSum || !okSquare || !okDiv || len(sum) != 0 || !slices.Equal(square, timesPlus(kept, kept, nil)) || !slices.Equal(quotient, []int{1}) || len(rest) != 0 || !slices.Equal(p, kept) {
		t.Errorf("one list in both places: %v, %v, %v, %v; it is %v", sum, square, quotient, rest, p)
	}
}
