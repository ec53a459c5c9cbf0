package tests

import (
	"math"
	"math/bits"
	"slices"
	"testing"

	"loop.example/g00210/impl"
)

// matrix draws a matrix of that many rows and places.
func (d *drawer) matrix(rows int, places int) [][]int {
	m := make([][]int, rows)
	for i := range m {
		m[i] = d.bytes(places)
	}
	return m
}

// whole draws a square matrix that has an inverse: one with noughts above its slope times one with noughts below.
func (d *drawer) whole(side int) [][]int {
	low, high := d.matrix(side, side), d.matrix(side, side)
	for i := range side {
		low[i][i], high[i][i] = 1+d.below(255), 1+d.below(255)
		for j := i + 1; j < side; j++ {
			low[i][j], high[j][i] = 0, 0
		}
	}
	return longMatMul(low, high)
}

// ofRank draws a matrix of just that rank: ones on the slope, and a matrix with an inverse on either side.
func (d *drawer) ofRank(rows int, places int, rank int) [][]int {
	middle := noughts(rows, places)
	for i := range rank {
		middle[i][i] = 1
	}
	return longMatMul(longMatMul(d.whole(rows), middle), d.whole(places))
}

func noughts(rows int, places int) [][]int {
	m := make([][]int, rows)
	for i := range m {
		m[i] = make([]int, places)
	}
	return m
}

// longMatMul is a product by its meaning, apart from the program.
func longMatMul(a [][]int, b [][]int) [][]int {
	m := noughts(len(a), len(b[0]))
	for i := range m {
		for j := range m[i] {
			for k := range b {
				m[i][j] ^= longProduct(a[i][k], b[k][j])
			}
		}
	}
	return m
}

func longUnit(n int) [][]int {
	m := noughts(n, n)
	for i := range m {
		m[i][i] = 1
	}
	return m
}

// longDeterminant goes by the first row; over this field no sign changes.
func longDeterminant(m [][]int) int {
	if len(m) == 1 {
		return m[0][0]
	}
	sum := 0
	for place, x := range m[0] {
		var rest [][]int
		for _, row := range m[1:] {
			rest = append(rest, append(slices.Clone(row[:place]), row[place+1:]...))
		}
		sum ^= longProduct(x, longDeterminant(rest))
	}
	return sum
}

func longSpread(k int, n int) [][]int {
	m := noughts(n, k)
	for i := range m {
		for j := range m[i] {
			if i >= k {
				m[i][j] = longPower(i^j, 254)
			} else if i == j {
				m[i][j] = 1
			}
		}
	}
	return m
}

func sameMatrix(a [][]int, b [][]int) bool {
	return slices.EqualFunc(a, b, slices.Equal[[]int])
}

func cloneMatrix(m [][]int) [][]int {
	list := make([][]int, len(m))
	for i, row := range m {
		list[i] = slices.Clone(row)
	}
	return list
}

// noSides are numbers that are no sides; the far ones have a side in their lowest bits.
var noSides = []int{0, -1, 17, -16, 256 + 4, 1<<32 + 4, -(1 << 32) + 4, math.MaxInt, math.MinInt, math.MinInt + 4}

// notMatrices are lists that are no matrices, each for one reason.
func notMatrices() [][][]int {
	list := [][][]int{
		nil, {}, {nil}, {{}}, {{}, {}}, {{}, {1}}, {{1}, {}}, {{1}, nil, {1}},
		{{1}, {1, 2}}, {{1, 2}, {1}}, {{1, 2}, {3, 4}, {5}}, {{1, 2}, {3, 4}, {5, 6, 7}}, {{1, 2}, {3}, {4, 5}},
		noughts(17, 1), noughts(1, 17), noughts(17, 17), noughts(16, 17), noughts(17, 16), noughts(2000, 2), noughts(2, 2000), noughts(17, 0),
	}
	ragged := noughts(16, 16)
	ragged[15] = ragged[15][:15]
	list = append(list, ragged)
	for _, x := range noBytes {
		list = append(list, [][]int{{x}}, [][]int{{x, 1}, {1, 1}}, [][]int{{1, x}, {1, 1}}, [][]int{{1, 1}, {x, 1}}, [][]int{{1, 1}, {1, x}})
		full := longUnit(16)
		full[15][15] = x
		list = append(list, full)
	}
	return list
}

// someMatrices are of all sides, those of the edges among them.
func someMatrices() [][][]int {
	d := drawer(31)
	list := [][][]int{{{0}}, {{1}}, {{255}}, {{0, 1}, {1, 0}}, {{1, 1}, {1, 1}}, noughts(16, 16), longUnit(16), noughts(1, 16), noughts(16, 1)}
	for rows := 1; rows <= 16; rows++ {
		for places := 1; places <= 16; places++ {
			list = append(list, d.matrix(rows, places))
		}
	}
	return list
}

// combined is the sum of the rows, each times a number drawn.
func (d *drawer) combined(rows [][]int) []int {
	sum := make([]int, len(rows[0]))
	for _, row := range rows {
		scale := d.below(256)
		for place, x := range row {
			sum[place] ^= longProduct(x, scale)
		}
	}
	return sum
}

func TestMatrixLimit(t *testing.T) {
	if impl.MaxSide != 16 {
		t.Errorf("MaxSide is %d", impl.MaxSide)
	}
}

func TestMatOkTellsMatrices(t *testing.T) {
	for _, m := range someMatrices() {
		if !impl.MatOk(m) {
			t.Errorf("%v is a matrix", m)
		}
	}
	for _, m := range notMatrices() {
		if impl.MatOk(m) {
			t.Errorf("%v is no matrix", m)
		}
	}
}

func TestMatOkLooksAtEachNumber(t *testing.T) {
	for rows := 1; rows <= 16; rows += 5 {
		for places := 1; places <= 16; places += 5 {
			m := noughts(rows, places)
			for i := range m {
				for j := range m[i] {
					for _, x := range noBytes {
						m[i][j] = x
						if impl.MatOk(m) {
							t.Fatalf("%d at row %d, place %d of %d by %d is taken", x, i, j, rows, places)
						}
					}
					m[i][j] = 255
					if !impl.MatOk(m) {
						t.Fatalf("255 at row %d, place %d of %d by %d is refused", i, j, rows, places)
					}
				}
			}
		}
	}
}

func TestMatUnit(t *testing.T) {
	for n := 1; n <= 16; n++ {
		if got, ok := impl.Unit(n); !ok || !sameMatrix(got, longUnit(n)) {
			t.Errorf("Unit(%d) = %v, %v", n, got, ok)
		}
	}
	for _, n := range noSides {
		if got, ok := impl.Unit(n); ok || len(got) != 0 {
			t.Errorf("Unit(%d) = %v, %v, want nothing", n, got, ok)
		}
	}
}

func TestMatProductsByMeaning(t *testing.T) {
	d := drawer(32)
	for rows := 1; rows <= 16; rows++ {
		for between := 1; between <= 16; between++ {
			for _, places := range []int{1, 2, 7, 16} {
				a, b := d.matrix(rows, between), d.matrix(between, places)
				if got, ok := impl.MatMul(a, b); !ok || !sameMatrix(got, longMatMul(a, b)) {
					t.Fatalf("MatMul(%v, %v) = %v, %v", a, b, got, ok)
				}
			}
		}
	}
	for _, m := range someMatrices() {
		left, okLeft := impl.MatMul(longUnit(len(m)), m)
		right, okRight := impl.MatMul(m, longUnit(len(m[0])))
		if !okLeft || !okRight || !sameMatrix(left, m) || !sameMatrix(right, m) {
			t.Fatalf("the unit times %v is another one", m)
		}
	}
}

func TestMatProductsEdges(t *testing.T) {
	for _, c := range []struct{ a, b, want [][]int }{
		{[][]int{{3}}, [][]int{{7}}, [][]int{{9}}},
		{[][]int{{1, 2}, {3, 4}}, [][]int{{0, 1}, {1, 0}}, [][]int{{2, 1}, {4, 3}}},
		{[][]int{{0, 1}, {1, 0}}, [][]int{{1, 2}, {3, 4}}, [][]int{{3, 4}, {1, 2}}},
		{[][]int{{2, 3}}, [][]int{{128}, {7}}, [][]int{{29 ^ 9}}},
		{[][]int{{1}, {2}}, [][]int{{3, 7}}, [][]int{{3, 7}, {6, 14}}},
		{noughts(16, 1), noughts(1, 16), noughts(16, 16)},
		{[][]int{{5, 5}}, [][]int{{9}, {9}}, [][]int{{0}}},
	} {
		if got, ok := impl.MatMul(c.a, c.b); !ok || !sameMatrix(got, c.want) {
			t.Errorf("MatMul(%v, %v) = %v, %v, want %v", c.a, c.b, got, ok, c.want)
		}
	}
}

func TestMatProductsRefuseSidesThatDoNotFit(t *testing.T) {
	for between := 1; between <= 16; between++ {
		for other := 1; other <= 16; other++ {
			a, b := noughts(3, between), noughts(other, 3)
			got, ok := impl.MatMul(a, b)
			if ok != (between == other) || !ok && len(got) != 0 {
				t.Errorf("MatMul of 3 by %d and %d by 3 = %v, %v", between, other, got, ok)
			}
		}
	}
}

func TestMatInverseTimesItIsTheUnit(t *testing.T) {
	d := drawer(33)
	for side := 1; side <= 16; side++ {
		for range 20 {
			m := d.whole(side)
			inverse, ok := impl.MatInverse(m)
			if !ok || !impl.MatOk(inverse) || impl.Rank(m) != side {
				t.Fatalf("MatInverse(%v) = %v, %v; its rank is %d", m, inverse, ok, impl.Rank(m))
			}
			if !sameMatrix(longMatMul(m, inverse), longUnit(side)) || !sameMatrix(longMatMul(inverse, m), longUnit(side)) {
				t.Fatalf("MatInverse(%v) = %v is none", m, inverse)
			}
			one, _ := impl.MatMul(m, inverse)
			two, _ := impl.MatMul(inverse, m)
			if !sameMatrix(one, longUnit(side)) || !sameMatrix(two, longUnit(side)) {
				t.Fatalf("%v times its inverse is %v, and %v", m, one, two)
			}
			if back, ok := impl.MatInverse(inverse); !ok || !sameMatrix(back, m) {
				t.Fatalf("the inverse of the inverse of %v is %v", m, back)
			}
		}
	}
}

func TestMatInverseJustWhereTheRankIsFull(t *testing.T) {
	d := drawer(34)
	for side := 1; side <= 16; side++ {
		for rank := 0; rank <= side; rank++ {
			m := d.ofRank(side, side, rank)
			inverse, ok := impl.MatInverse(m)
			if impl.Rank(m) != rank || ok != (rank == side) || !ok && len(inverse) != 0 {
				t.Fatalf("%v of rank %d: Rank %d, inverse %v, %v", m, rank, impl.Rank(m), inverse, ok)
			}
		}
	}
	for side := 1; side <= 4; side++ {
		for range 600 {
			m := d.matrix(side, side)
			for i := range m {
				for j := range m[i] {
					m[i][j] %= 3 // few numbers: often no inverse
				}
			}
			_, ok := impl.MatInverse(m)
			if want := longDeterminant(m) != 0; ok != want || (impl.Rank(m) == side) != want {
				t.Fatalf("%v: inverse %v, rank %d, want an inverse: %v", m, ok, impl.Rank(m), want)
			}
		}
	}
}

func TestMatInverseEdges(t *testing.T) {
	for _, c := range []struct{ m, want [][]int }{
		{[][]int{{1}}, [][]int{{1}}}, {[][]int{{2}}, [][]int{{142}}}, {[][]int{{255}}, [][]int{{longPower(255, 254)}}},
		{[][]int{{0, 1}, {1, 0}}, [][]int{{0, 1}, {1, 0}}}, {[][]int{{0, 2}, {3, 0}}, [][]int{{0, 244}, {142, 0}}},
		{[][]int{{0, 0, 1}, {1, 0, 0}, {0, 1, 0}}, [][]int{{0, 1, 0}, {0, 0, 1}, {1, 0, 0}}},
		{[][]int{{1, 1, 0}, {1, 1, 1}, {0, 1, 1}}, [][]int{{0, 1, 1}, {1, 1, 1}, {1, 1, 0}}},
		{[][]int{{1, 0}, {7, 1}}, [][]int{{1, 0}, {7, 1}}}, {longUnit(16), longUnit(16)},
	} {
		if got, ok := impl.MatInverse(c.m); !ok || !sameMatrix(got, c.want) {
			t.Errorf("MatInverse(%v) = %v, %v, want %v", c.m, got, ok, c.want)
		}
	}
	for side := 1; side <= 16; side++ {
		m := noughts(side, side)
		for i := range m {
			m[i][side-1-i] = i + 1 // noughts on the slope but in the middle
		}
		inverse, ok := impl.MatInverse(m)
		if !ok || !sameMatrix(longMatMul(m, inverse), longUnit(side)) || impl.Rank(m) != side {
			t.Errorf("MatInverse(%v) = %v, %v", m, inverse, ok)
		}
	}
}

func TestMatInverseWhoseFirstNumberIsZero(t *testing.T) {
	d := drawer(35)
	for side := 2; side <= 16; side++ {
		for zeros := 1; zeros < side; zeros++ {
			m := d.whole(side)
			for i := range zeros { // the first place becomes 0 down to row zeros, by sums with a row that has a number there
				scale := longProduct(m[i][0], longPower(m[side-1][0], 254))
				for j := range m[i] {
					m[i][j] ^= longProduct(scale, m[side-1][j])
				}
			}
			if m[side-1][0] == 0 {
				continue
			}
			inverse, ok := impl.MatInverse(m)
			if m[0][0] != 0 || !ok || !sameMatrix(longMatMul(m, inverse), longUnit(side)) || impl.Rank(m) != side {
				t.Fatalf("MatInverse(%v) = %v, %v", m, inverse, ok)
			}
		}
	}
}

func TestMatInverseRefusesRowsThatHangTogether(t *testing.T) {
	d := drawer(36)
	for side := 2; side <= 16; side++ {
		for bad := range side {
			m := d.whole(side)
			good := append(cloneMatrix(m[:bad]), cloneMatrix(m[bad+1:])...)
			for name, row := range map[string][]int{
				"alike": slices.Clone(good[0]), "noughts": make([]int, side), "multiple": d.combined(good[:1]), "sum": d.combined(good),
			} {
				m[bad] = row
				if got, ok := impl.MatInverse(m); ok || len(got) != 0 || impl.Rank(m) != side-1 {
					t.Fatalf("%s at row %d of %v: inverse %v, %v, rank %d", name, bad, m, got, ok, impl.Rank(m))
				}
				turned, _ := impl.Turned(m)
				if got, ok := impl.MatInverse(turned); ok || len(got) != 0 || impl.Rank(turned) != side-1 {
					t.Fatalf("%s at place %d of %v: inverse %v, %v", name, bad, turned, got, ok)
				}
			}
		}
	}
	if got, ok := impl.MatInverse([][]int{{0}}); ok || len(got) != 0 {
		t.Errorf("MatInverse of 0 = %v, %v", got, ok)
	}
}

func TestMatInverseRefusesWhatIsNotSquare(t *testing.T) {
	d := drawer(37)
	for rows := 1; rows <= 16; rows++ {
		for places := 1; places <= 16; places++ {
			if rows == places {
				continue
			}
			m := d.ofRank(rows, places, min(rows, places))
			if got, ok := impl.MatInverse(m); ok || len(got) != 0 {
				t.Errorf("MatInverse of %d by %d = %v, %v", rows, places, got, ok)
			}
		}
	}
}

func TestMatRankOfAllSides(t *testing.T) {
	d := drawer(38)
	for rows := 1; rows <= 16; rows++ {
		for places := 1; places <= 16; places++ {
			for rank := 0; rank <= min(rows, places); rank++ {
				m := d.ofRank(rows, places, rank)
				turned, ok := impl.Turned(m)
				if got := impl.Rank(m); got != rank || !ok || impl.Rank(turned) != rank {
					t.Fatalf("Rank(%v) = %d, turned %d, want %d", m, got, impl.Rank(turned), rank)
				}
			}
		}
	}
}

func TestMatRankEdges(t *testing.T) {
	alike := noughts(16, 16)
	for i := range alike {
		for j := range alike[i] {
			alike[i][j] = j + 1
		}
	}
	for _, c := range []struct {
		m    [][]int
		want int
	}{
		{[][]int{{0}}, 0}, {[][]int{{255}}, 1}, {noughts(16, 16), 0}, {noughts(1, 16), 0}, {noughts(16, 1), 0}, {longUnit(16), 16}, {alike, 1},
		{[][]int{{0, 0, 1}}, 1}, {[][]int{{0}, {0}, {1}}, 1}, {[][]int{{1}, {2}, {3}}, 1}, {[][]int{{1, 2, 3}}, 1},
		{[][]int{{1, 1}, {1, 1}}, 1}, {[][]int{{1, 2, 3}, {2, 4, 6}, {0, 0, 1}}, 2}, {[][]int{{1, 2, 3}, {2, 4, 6}, {3, 6, 5}}, 1},
		{[][]int{{1, 2}, {4, 8}, {5, 10}}, 1}, {[][]int{{1, 2}, {4, 9}, {5, 11}}, 2}, {[][]int{{0, 0, 0}, {0, 0, 5}, {0, 7, 0}}, 2},
		{[][]int{{0, 0, 0, 1}, {0, 0, 0, 2}, {0, 3, 0, 0}}, 2}, {[][]int{{0, 1, 0, 1}, {0, 1, 0, 2}, {0, 0, 0, 9}}, 2}, {[][]int{{0, 0}, {0, 0}, {4, 5}}, 1},
	} {
		if got := impl.Rank(c.m); got != c.want {
			t.Errorf("Rank(%v) = %d, want %d", c.m, got, c.want)
		}
	}
}

func TestMatPick(t *testing.T) {
	d := drawer(39)
	for _, m := range someMatrices() {
		for count := 1; count <= 16; count++ {
			rows, want := make([]int, count), make([][]int, count)
			for i := range rows {
				rows[i] = d.below(len(m))
				want[i] = m[rows[i]]
			}
			if got, ok := impl.Pick(m, rows); !ok || !sameMatrix(got, want) {
				t.Fatalf("Pick(%v, %v) = %v, %v", m, rows, got, ok)
			}
		}
		for _, bad := range []int{-1, len(m), -len(m), 1 << 32, -(1 << 32), math.MaxInt, math.MinInt} {
			for _, rows := range [][]int{{bad}, {0, bad}, {bad, 0}, {0, bad, 0}, append(make([]int, 15), bad)} {
				if got, ok := impl.Pick(m, rows); ok || len(got) != 0 {
					t.Fatalf("Pick(%v, %v) = %v, %v, want nothing", m, rows, got, ok)
				}
			}
		}
	}
}

func TestMatPickEdges(t *testing.T) {
	m := [][]int{{1, 2}, {3, 4}, {5, 6}}
	for _, c := range []struct {
		rows []int
		want [][]int
	}{
		{[]int{0}, [][]int{{1, 2}}}, {[]int{2}, [][]int{{5, 6}}}, {[]int{2, 1, 0}, [][]int{{5, 6}, {3, 4}, {1, 2}}}, {[]int{1, 1}, [][]int{{3, 4}, {3, 4}}},
	} {
		if got, ok := impl.Pick(m, c.rows); !ok || !sameMatrix(got, c.want) {
			t.Errorf("Pick(%v, %v) = %v, %v, want %v", m, c.rows, got, ok, c.want)
		}
	}
	if got, ok := impl.Pick(m, make([]int, 16)); !ok || len(got) != 16 || slices.ContainsFunc(got, func(row []int) bool { return !slices.Equal(row, m[0]) }) {
		t.Errorf("Pick of one row 16 times = %v, %v", got, ok)
	}
	for _, rows := range [][]int{nil, {}, make([]int, 17), make([]int, 5000)} {
		if got, ok := impl.Pick(m, rows); ok || len(got) != 0 {
			t.Errorf("Pick of %d rows = %v, %v, want nothing", len(rows), got, ok)
		}
	}
}

func TestMatSpread(t *testing.T) {
	for n := 1; n <= 16; n++ {
		for k := 1; k <= n; k++ {
			if got, ok := impl.Spread(k, n); !ok || !sameMatrix(got, longSpread(k, n)) {
				t.Errorf("Spread(%d, %d) = %v, %v, want %v", k, n, got, ok, longSpread(k, n))
			}
		}
		if got, _ := impl.Spread(n, n); !sameMatrix(got, longUnit(n)) {
			t.Errorf("Spread(%d, %d) = %v, want the unit", n, n, got)
		}
	}
	if got, ok := impl.Spread(2, 4); !ok || !sameMatrix(got, [][]int{{1, 0}, {0, 1}, {142, 244}, {244, 142}}) {
		t.Errorf("Spread(2, 4) = %v, %v", got, ok)
	}
}

func TestMatSpreadRefuses(t *testing.T) {
	bad := [][2]int{{0, 4}, {0, 1}, {0, 16}, {0, 0}, {-1, 4}, {5, 4}, {2, 1}, {16, 15}, {17, 16}, {1, 17}, {16, 17}, {17, 17}, {17, 18}, {1, 0}, {1, -1}, {-1, -1}, {-2, -1}}
	for _, x := range noSides {
		bad = append(bad, [2]int{x, x}, [2]int{1, x}, [2]int{x, 16}, [2]int{x, 1})
	}
	for _, pair := range bad {
		if got, ok := impl.Spread(pair[0], pair[1]); ok || len(got) != 0 {
			t.Errorf("Spread(%d, %d) = %v, %v, want nothing", pair[0], pair[1], got, ok)
		}
	}
}

func TestMatAnyRowsOfASpreadHaveAnInverse(t *testing.T) {
	for n := 1; n <= 16; n++ {
		for k := 1; k <= n; k++ {
			spread, ok := impl.Spread(k, n)
			if !ok {
				t.Fatalf("Spread(%d, %d) is refused", k, n)
			}
			for set := range 1 << n {
				if bits.OnesCount(uint(set)) == k && set>>(n-1)&1 == 1 { // without its last row it is a spread of fewer rows, seen before
					checkRowsOfSpread(t, spread, set)
				}
			}
		}
	}
}

// checkRowsOfSpread takes the rows whose bits stand in set.
func checkRowsOfSpread(t *testing.T, spread [][]int, set int) {
	t.Helper()
	var rows []int
	for row := range spread {
		if set>>row&1 == 1 {
			rows = append(rows, row)
		}
	}
	picked, okPick := impl.Pick(spread, rows)
	inverse, okInverse := impl.MatInverse(picked)
	times, okTimes := impl.MatMul(inverse, picked)
	if !okPick || !okInverse || !okTimes || !sameMatrix(times, longUnit(len(rows))) {
		t.Fatalf("rows %v of the spread %v: %v, %v", rows, spread, picked, inverse)
	}
}

func TestMatRowsOfASpreadInAnyOrderHaveAnInverse(t *testing.T) {
	for _, rows := range [][]int{{3, 2, 1, 0}, {6, 0, 5, 3}, {1, 6, 2, 4}, {6, 5, 4, 3}} {
		spread, _ := impl.Spread(4, 7)
		picked, _ := impl.Pick(spread, rows)
		inverse, ok := impl.MatInverse(picked)
		if !ok || !sameMatrix(longMatMul(inverse, picked), longUnit(4)) {
			t.Errorf("rows %v of a spread: %v, %v", rows, inverse, ok)
		}
	}
	spread, _ := impl.Spread(2, 4)
	twice, _ := impl.Pick(spread, []int{3, 3})
	if got, ok := impl.MatInverse(twice); ok || len(got) != 0 {
		t.Errorf("one row twice has an inverse: %v", got)
	}
}

func TestMatTurned(t *testing.T) {
	for _, m := range someMatrices() {
		turned, ok := impl.Turned(m)
		if !ok || len(turned) != len(m[0]) || !impl.MatOk(turned) {
			t.Fatalf("Turned(%v) = %v, %v", m, turned, ok)
		}
		for i, row := range m {
			for j, x := range row {
				if len(turned[j]) != len(m) || turned[j][i] != x {
					t.Fatalf("Turned(%v) = %v", m, turned)
				}
			}
		}
		if back, ok := impl.Turned(turned); !ok || !sameMatrix(back, m) {
			t.Fatalf("%v turned twice is %v", m, back)
		}
	}
}

func TestMatProductTurned(t *testing.T) {
	d := drawer(40)
	for rows := 1; rows <= 16; rows += 3 {
		for between := 1; between <= 16; between += 3 {
			for places := 1; places <= 16; places += 3 {
				a, b := d.matrix(rows, between), d.matrix(between, places)
				times, _ := impl.MatMul(a, b)
				want, okWant := impl.Turned(times)
				turnedA, _ := impl.Turned(a)
				turnedB, _ := impl.Turned(b)
				got, ok := impl.MatMul(turnedB, turnedA)
				if !ok || !okWant || !sameMatrix(got, want) {
					t.Fatalf("%v times %v turned is %v, not %v", a, b, want, got)
				}
			}
		}
	}
}

func TestMatRefusesWhatIsNone(t *testing.T) {
	for _, bad := range notMatrices() {
		others := [][][]int{{{1}}, noughts(1, 2), noughts(2, 1), longUnit(2), longUnit(16), noughts(len(bad), 1), bad}
		if len(bad) > 0 {
			others = append(others, longUnit(len(bad)), noughts(len(bad[0]), 1))
		}
		for _, other := range others {
			for _, pair := range [][2][][]int{{bad, other}, {other, bad}} {
				if got, ok := impl.MatMul(pair[0], pair[1]); ok || len(got) != 0 {
					t.Errorf("MatMul(%v, %v) = %v, %v", pair[0], pair[1], got, ok)
				}
			}
		}
		if got, ok := impl.MatInverse(bad); ok || len(got) != 0 {
			t.Errorf("MatInverse(%v) = %v, %v", bad, got, ok)
		}
		if got := impl.Rank(bad); got != -1 {
			t.Errorf("Rank(%v) = %d, want -1", bad, got)
		}
		for _, rows := range [][]int{nil, {0}, {0, 0}, {-1}, make([]int, 16), make([]int, 17)} {
			if got, ok := impl.Pick(bad, rows); ok || len(got) != 0 {
				t.Errorf("Pick(%v, %v) = %v, %v", bad, rows, got, ok)
			}
		}
		if got, ok := impl.Turned(bad); ok || len(got) != 0 {
			t.Errorf("Turned(%v) = %v, %v", bad, got, ok)
		}
	}
}

// roomyMatrix is the matrix with spare room behind its rows, that holds 99, and behind their list, and all of the rows' memory.
func roomyMatrix(m [][]int) ([][]int, [][]int) {
	var rows, memory [][]int
	for _, row := range m {
		part, whole := withRoom(row)
		rows, memory = append(rows, part), append(memory, whole)
	}
	spare := []int{99}
	rows, memory = append(rows, spare, spare), append(memory, spare)
	return rows[:len(m)], memory
}

func TestMatWritesIntoNoList(t *testing.T) {
	d := drawer(41)
	pairs := [][2][][]int{
		{d.whole(3), d.whole(3)}, {d.whole(16), d.whole(16)}, {{{0, 1}, {1, 0}}, {{1, 1}, {1, 1}}}, {{{2}}, {{3}}}, {d.matrix(2, 5), d.matrix(5, 3)},
		{d.matrix(5, 3), d.matrix(2, 5)}, {noughts(16, 16), longUnit(16)}, {{{1, 256}, {3, 4}}, {{1, 2}, {3, -1}}}, {{{1, 2}, {3}}, {{1}, {2, 3}}}, {nil, {{}}},
		{noughts(17, 2), noughts(2, 17)}, {{{0, 0}, {0, 5}}, {{0, 3}, {0, 0}}},
	}
	for _, pair := range pairs {
		a, memoryA := roomyMatrix(pair[0])
		b, memoryB := roomyMatrix(pair[1])
		picked, memoryPicked := withRoom([]int{0, 0})
		memory := slices.Concat(memoryA, memoryB, [][]int{memoryPicked})
		kept, keptRows := cloneMatrix(memory), slices.Concat(a[:cap(a)], b[:cap(b)])
		answers := matrixAnswers(a, b, picked)
		for i, answer := range answers {
			checkOwnRows(t, answer, memory)
			for j := range answer[:cap(answer)] {
				row := answer[:cap(answer)][j]
				for place := range row[:cap(row)] {
					row[:cap(row)][place] = 77
				}
				answer[:cap(answer)][j] = nil
			}
			if !sameMatrix(memory, kept) || !sameRows(slices.Concat(a[:cap(a)], b[:cap(b)]), keptRows) {
				t.Fatalf("answer %d of %v and %v: an argument or the room behind it was written into", i, pair[0], pair[1])
			}
		}
	}
}

// matrixAnswers calls all that takes a matrix or a list.
func matrixAnswers(a [][]int, b [][]int, rows []int) [][][]int {
	times, _ := impl.MatMul(a, b)
	square, _ := impl.MatMul(a, a)
	inverseA, _ := impl.MatInverse(a)
	inverseB, _ := impl.MatInverse(b)
	pickedA, _ := impl.Pick(a, rows)
	pickedB, _ := impl.Pick(b, rows)
	turnedA, _ := impl.Turned(a)
	turnedB, _ := impl.Turned(b)
	impl.Rank(a)
	impl.Rank(b)
	impl.MatOk(a)
	impl.MatOk(b)
	return [][][]int{times, square, inverseA, inverseB, pickedA, pickedB, turnedA, turnedB}
}

// sameRows tells whether two lists hold the very same rows, not only rows that are alike.
func sameRows(a [][]int, b [][]int) bool {
	return slices.EqualFunc(a, b, func(x []int, y []int) bool {
		return len(x) == len(y) && cap(x) == cap(y) && (cap(x) == 0 || sharesInts(x, y))
	})
}

// checkOwnRows wants each row to be in memory of its own.
func checkOwnRows(t *testing.T, answer [][]int, memory [][]int) {
	t.Helper()
	for i, row := range answer {
		for _, other := range answer[i+1:] {
			if sharesInts(row, other) {
				t.Fatalf("two rows of %v share memory", answer)
			}
		}
		for _, other := range memory {
			if sharesInts(row, other) {
				t.Fatalf("%v shares memory with an argument", answer)
			}
		}
	}
}

func TestMatAnswersShareNothing(t *testing.T) {
	for n := 1; n <= 16; n++ {
		unit, _ := impl.Unit(n)
		checkOwnRows(t, unit, nil)
		spread, _ := impl.Spread((n+1)/2, n)
		checkOwnRows(t, spread, unit)
		twice, ok := impl.Pick(spread, make([]int, n))
		if !ok {
			t.Fatalf("Pick of one row %d times is refused", n)
		}
		checkOwnRows(t, twice, spread)
		unit[0][0], spread[0][0] = 77, 77
		again, _ := impl.Unit(n)
		anew, _ := impl.Spread((n+1)/2, n)
		if !sameMatrix(again, longUnit(n)) || !sameMatrix(anew, longSpread((n+1)/2, n)) {
			t.Fatalf("what was written into an answer is in the next one: %v, %v", again, anew)
		}
	}
}

func TestMatTakesOneRowTwice(t *testing.T) {
	row := []int{3, 5}
	alike := [][]int{row, row}
	if got, ok := impl.MatInverse(alike); ok || len(got) != 0 || impl.Rank(alike) != 1 {
		t.Errorf("one row in both places: inverse %v, rank %d", got, impl.Rank(alike))
	}
	turned, okTurned := impl.Turned(alike)
	times, okTimes := impl.MatMul(alike, alike)
	if !okTurned || !okTimes || !sameMatrix(turned, [][]int{{3, 3}, {5, 5}}) || !sameMatrix(times, longMatMul(alike, alike)) || !slices.Equal(row, []int{3, 5}) {
		t.Errorf("one row in both places: %v, %v; it is %v", turned, times, row)
	}
	checkOwnRows(t, turned, alike)
	checkOwnRows(t, times, alike)
}
