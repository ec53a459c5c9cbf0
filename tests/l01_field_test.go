package tests

import (
	"math"
	"slices"
	"strings"
	"testing"
	"unsafe"

	"loop.example/g00210/impl"
)

// noBytes are numbers that are no byte numbers; the far ones have a byte number in their lowest eight bits.
var noBytes = []int{-1, 256, -256, -255, 257, 512, 1 << 32, 1<<32 + 1, -(1 << 32), math.MaxInt, math.MinInt, math.MinInt + 1}

// longProduct is a product by its meaning: polynomials over 0 and 1 multiplied, and the rest by the shape 100011101.
func longProduct(a int, b int) int {
	product := 0
	for bit := range 8 {
		if b>>bit&1 == 1 {
			product ^= a << bit
		}
	}
	for bit := 14; bit >= 8; bit-- {
		if product>>bit&1 == 1 {
			product ^= 0b100011101 << (bit - 8)
		}
	}
	return product
}

// longPower is a power by squares, apart from any table.
func longPower(a int, n int) int {
	power := 1
	for n > 0 {
		if n%2 == 1 {
			power = longProduct(power, a)
		}
		a = longProduct(a, a)
		n /= 2
	}
	return power
}

func allBytes() string {
	var b strings.Builder
	for x := range 256 {
		b.WriteByte(byte(x))
	}
	return b.String()
}

func TestFieldShape(t *testing.T) {
	if impl.Shape != 285 {
		t.Errorf("Shape is %d", impl.Shape)
	}
}

func TestFieldSumsAndProductsByMeaning(t *testing.T) {
	for a := range 256 {
		for b := range 256 {
			if got := impl.Add(a, b); got != a^b {
				t.Fatalf("Add(%d, %d) = %d, want %d", a, b, got, a^b)
			}
			if got, want := impl.Mul(a, b), longProduct(a, b); got != want {
				t.Fatalf("Mul(%d, %d) = %d, want %d", a, b, got, want)
			}
		}
	}
}

func TestFieldLaws(t *testing.T) {
	var sum, product [256][256]int
	for a := range 256 {
		for b := range 256 {
			sum[a][b], product[a][b] = impl.Add(a, b), impl.Mul(a, b)
		}
	}
	for a := range 256 {
		if sum[a][0] != a || sum[a][a] != 0 || product[a][1] != a || product[a][0] != 0 {
			t.Fatalf("0 and 1 do not stand still at %d", a)
		}
		for b := range 256 {
			if sum[a][b] != sum[b][a] || product[a][b] != product[b][a] {
				t.Fatalf("%d and %d can't be changed for each other", a, b)
			}
			for c := range 256 {
				if product[a][product[b][c]] != product[product[a][b]][c] || sum[a][sum[b][c]] != sum[sum[a][b]][c] {
					t.Fatalf("%d, %d, %d: the order of taking tells", a, b, c)
				}
				if product[a][sum[b][c]] != sum[product[a][b]][product[a][c]] {
					t.Fatalf("%d, %d, %d: a product of a sum is no sum of products", a, b, c)
				}
			}
		}
	}
}

func TestFieldInverses(t *testing.T) {
	if got := impl.Inv(0); got != -1 {
		t.Errorf("Inv(0) = %d, want -1", got)
	}
	seen := map[int]bool{}
	for a := 1; a < 256; a++ {
		x := impl.Inv(a)
		if x < 1 || x > 255 || impl.Mul(a, x) != 1 || impl.Mul(x, a) != 1 {
			t.Errorf("Inv(%d) = %d is no inverse", a, x)
		}
		seen[x] = true
	}
	if len(seen) != 255 {
		t.Errorf("there are %d inverses, want 255", len(seen))
	}
}

func TestFieldDivision(t *testing.T) {
	for a := range 256 {
		if got := impl.Div(a, 0); got != -1 {
			t.Errorf("Div(%d, 0) = %d, want -1", a, got)
		}
		for b := 1; b < 256; b++ {
			q := impl.Div(a, b)
			if q < 0 || q > 255 || longProduct(q, b) != a || q != impl.Mul(a, impl.Inv(b)) {
				t.Fatalf("Div(%d, %d) = %d", a, b, q)
			}
		}
	}
}

func TestFieldExpAndLog(t *testing.T) {
	for n := -600; n <= 600; n++ {
		rest := ((n % 255) + 255) % 255
		if got, want := impl.Exp(n), longPower(2, rest); got != want {
			t.Errorf("Exp(%d) = %d, want %d", n, got, want)
		}
	}
	for a := 1; a < 256; a++ {
		n := impl.Log(a)
		if n < 0 || n > 254 || impl.Exp(n) != a {
			t.Errorf("Log(%d) = %d", a, n)
		}
	}
	for n := range 255 {
		if got := impl.Log(impl.Exp(n)); got != n {
			t.Errorf("Log of Exp(%d) = %d", n, got)
		}
	}
	if got := impl.Log(0); got != -1 {
		t.Errorf("Log(0) = %d, want -1", got)
	}
}

func TestFieldExpEdges(t *testing.T) {
	// The greatest int leaves 127 by 255, the least one -128, which is 127 too.
	for _, c := range []struct{ n, want int }{
		{0, 1}, {1, 2}, {7, 128}, {8, 29}, {254, 142}, {255, 1}, {256, 2}, {509, 142}, {510, 1},
		{-1, 142}, {-254, 2}, {-255, 1}, {-256, 142}, {-510, 1},
		{math.MaxInt, longPower(2, 127)}, {math.MinInt, longPower(2, 127)},
	} {
		if got := impl.Exp(c.n); got != c.want {
			t.Errorf("Exp(%d) = %d, want %d", c.n, got, c.want)
		}
	}
}

func TestFieldPowers(t *testing.T) {
	for a := range 256 {
		want := 1
		for n := range 520 {
			if got := impl.Pow(a, n); got != want {
				t.Fatalf("Pow(%d, %d) = %d, want %d", a, n, got, want)
			}
			want = longProduct(want, a)
		}
		for _, n := range []int{65535, 65536, 999999, 1000000} {
			if got, want := impl.Pow(a, n), longPower(a, n); got != want {
				t.Errorf("Pow(%d, %d) = %d, want %d", a, n, got, want)
			}
		}
		for _, n := range []int{-1, -255, 1000001, 1 << 40, math.MaxInt, math.MinInt} {
			if got := impl.Pow(a, n); got != -1 {
				t.Errorf("Pow(%d, %d) = %d, want -1", a, n, got)
			}
		}
	}
}

func TestFieldPowersOfZero(t *testing.T) {
	for _, c := range []struct{ n, want int }{{0, 1}, {1, 0}, {255, 0}, {1000000, 0}, {1000001, -1}, {-1, -1}} {
		if got := impl.Pow(0, c.n); got != c.want {
			t.Errorf("Pow(0, %d) = %d, want %d", c.n, got, c.want)
		}
	}
}

func TestFieldRefusesWhatIsNoByteNumber(t *testing.T) {
	two := map[string]func(int, int) int{"Add": impl.Add, "Mul": impl.Mul, "Div": impl.Div}
	for _, x := range noBytes {
		for name, f := range two {
			for _, y := range append([]int{0, 1, 2, 77, 254, 255}, noBytes...) {
				if f(x, y) != -1 || f(y, x) != -1 {
					t.Errorf("%s of %d and %d: %d and %d, want -1", name, x, y, f(x, y), f(y, x))
				}
			}
		}
		for _, n := range []int{-1, 0, 1, 255, 1000000, 1000001} {
			if got := impl.Pow(x, n); got != -1 {
				t.Errorf("Pow(%d, %d) = %d, want -1", x, n, got)
			}
		}
		if impl.Inv(x) != -1 || impl.Log(x) != -1 {
			t.Errorf("Inv(%d) = %d, Log = %d, want -1", x, impl.Inv(x), impl.Log(x))
		}
		if got := impl.ScaleText("abc", x); got != "" {
			t.Errorf("ScaleText by %d = %q, want nothing", x, got)
		}
	}
}

func TestFieldDot(t *testing.T) {
	long, ones := make([]int, 1000), make([]int, 1000)
	for i := range long {
		long[i], ones[i] = i%256, 1
	}
	want := 0
	for _, x := range long {
		want ^= x
	}
	for _, c := range []struct {
		a, b []int
		want int
	}{
		{nil, nil, 0},
		{[]int{}, nil, 0},
		{[]int{2, 3}, []int{128, 7}, 29 ^ 9},
		{[]int{0, 0}, []int{255, 255}, 0},
		{[]int{7, 7}, []int{9, 9}, 0},
		{[]int{255}, []int{255}, longProduct(255, 255)},
		{long, ones, want},
		{[]int{1}, nil, -1},
		{nil, []int{0}, -1},
		{[]int{1, 2, 3}, []int{1, 2}, -1},
		{[]int{0}, []int{0, 0}, -1},
	} {
		if got := impl.Dot(c.a, c.b); got != c.want {
			t.Errorf("Dot(%v, %v) = %d, want %d", c.a, c.b, got, c.want)
		}
	}
}

func TestFieldDotRefusesInEachPlace(t *testing.T) {
	for _, x := range noBytes {
		for place := range 3 {
			bad, zeros := []int{1, 2, 3}, []int{0, 0, 0}
			bad[place] = x
			if impl.Dot(bad, zeros) != -1 || impl.Dot(zeros, bad) != -1 || impl.Dot(bad, bad) != -1 {
				t.Errorf("Dot with %d at place %d is not refused", x, place)
			}
		}
	}
}

func TestFieldScaleText(t *testing.T) {
	all := allBytes()
	for a := range 256 {
		got := impl.ScaleText(all, a)
		if len(got) != len(all) {
			t.Fatalf("ScaleText by %d has %d bytes", a, len(got))
		}
		for x := range 256 {
			if int(got[x]) != longProduct(x, a) {
				t.Fatalf("ScaleText of %d by %d is %d", x, a, got[x])
			}
		}
		if impl.ScaleText("", a) != "" {
			t.Errorf("ScaleText of nothing by %d is something", a)
		}
	}
	if got := impl.ScaleText("ab", 0); got != "\x00\x00" {
		t.Errorf("ScaleText by 0 = %q, want as many bytes 0", got)
	}
}

func TestFieldAddTexts(t *testing.T) {
	all := allBytes()
	for shift := range 256 {
		other := all[shift:] + all[:shift]
		got := impl.AddTexts(all, other)
		if len(got) != len(all) {
			t.Fatalf("the sum has %d bytes", len(got))
		}
		for i := range 256 {
			if got[i] != all[i]^other[i] {
				t.Fatalf("the sum of %d and %d is %d", all[i], other[i], got[i])
			}
		}
		if impl.AddTexts(got, other) != all {
			t.Fatalf("what is added twice is still there, at %d", shift)
		}
	}
	for _, c := range []struct{ a, b, want string }{
		{"", "", ""}, {"a", "a", "\x00"}, {"\x05", "\x03", "\x06"},
		{"a", "", ""}, {"", "a", ""}, {"ab", "abc", ""}, {"\x00", "\x00\x00", ""},
	} {
		if got := impl.AddTexts(c.a, c.b); got != c.want {
			t.Errorf("AddTexts(%q, %q) = %q, want %q", c.a, c.b, got, c.want)
		}
	}
}

func TestFieldWritesIntoNoList(t *testing.T) {
	for _, refused := range []bool{false, true} {
		wholeA, wholeB := []int{9, 2, 3, 9, 9}, []int{8, 128, 7, 8, 8}
		if refused {
			wholeA[2] = 256
		}
		keptA, keptB := slices.Clone(wholeA), slices.Clone(wholeB)
		impl.Dot(wholeA[1:3], wholeB[1:3])
		impl.Dot(wholeA[1:3], wholeB[1:2])
		impl.Dot(wholeA[1:3], wholeA[1:3])
		if !slices.Equal(wholeA, keptA) || !slices.Equal(wholeB, keptB) {
			t.Errorf("Dot wrote into a list or the room behind it: %v, %v", wholeA, wholeB)
		}
	}
}

// sharesMemory tells whether two texts have a byte in common.
func sharesMemory(a string, b string) bool {
	if a == "" || b == "" {
		return false
	}
	startA, startB := uintptr(unsafe.Pointer(unsafe.StringData(a))), uintptr(unsafe.Pointer(unsafe.StringData(b)))
	return startA < startB+uintptr(len(b)) && startB < startA+uintptr(len(a))
}

func TestFieldTextsAreNewMemory(t *testing.T) {
	text := strings.Repeat("farstore", 8)
	zeros := strings.Repeat("\x00", len(text))
	kept := strings.Clone(text)
	for a := range 256 {
		if got := impl.ScaleText(text, a); sharesMemory(got, text) {
			t.Errorf("ScaleText by %d hands out its argument's memory", a)
		}
	}
	for _, got := range []string{impl.AddTexts(text, zeros), impl.AddTexts(zeros, text)} {
		if got != text || sharesMemory(got, text) || sharesMemory(got, zeros) {
			t.Errorf("AddTexts with noughts = %q, or shares memory", got)
		}
	}
	if text != kept {
		t.Error("a text was written into")
	}
}

func TestFieldKeepsNothing(t *testing.T) {
	for range 3 {
		if impl.Mul(3, 7) != 9 || impl.Exp(-1) != 142 || impl.Log(29) != 8 || impl.Mul(256, 1) != -1 || impl.Inv(0) != -1 {
			t.Error("an answer hangs on an earlier call")
		}
	}
}
