package tests

import (
	"fmt"
	"math"
	"slices"
	"strconv"
	"strings"
	"testing"

	"loop.example/g00210/impl"
)

// headed is a body behind the four bytes that are summed with it, of whatever numbers.
func headed(k int, n int, index int, body string) string {
	return string([]byte{byte(k), byte(n), byte(index), byte(len(body) % 256)}) + body
}

// brief tells so much of a value that a failure can be understood.
func brief(x any) string {
	return fmt.Sprintf("%.400s", fmt.Sprintf("%#v", x))
}

// bound lays the leaves of these pieces, in their order, under one root, whatever they tell: so a liar could.
func bound(pieces []impl.Piece) []impl.Piece {
	leaves := []string{}
	for _, p := range pieces {
		leaves = append(leaves, impl.Leaf(headed(p.K, p.N, p.Index, p.Body)))
	}
	root := longRoot(leaves, impl.Join)
	list := slices.Clone(pieces)
	for i := range list {
		list[i].Root, list[i].Proof = root, longProof(leaves, i)
	}
	return list
}

// longPieces are the pieces of bodies, whether these go together or not.
func longPieces(k int, bodies []string) []impl.Piece {
	pieces := []impl.Piece{}
	for i, body := range bodies {
		pieces = append(pieces, impl.Piece{K: k, N: len(bodies), Index: i, Body: body})
	}
	return bound(pieces)
}

func samePiece(a impl.Piece, b impl.Piece) bool {
	return a.Root == b.Root && a.K == b.K && a.N == b.N && a.Index == b.Index && a.Body == b.Body && slices.Equal(a.Proof, b.Proof)
}

func pickPieces(list []impl.Piece, places []int) []impl.Piece {
	picked := []impl.Piece{}
	for _, place := range places {
		picked = append(picked, list[place])
	}
	return picked
}

// otherPiece is p with a change made to a copy of it.
func otherPiece(p impl.Piece, change func(p *impl.Piece)) impl.Piece {
	p.Proof = slices.Clone(p.Proof)
	change(&p)
	return p
}

func checkRegain(t *testing.T, root string, pieces []impl.Piece, want string, wantCode int) {
	t.Helper()
	if got, code := impl.Regain(root, pieces); got != want || code != wantCode {
		t.Fatalf("Regain from %d pieces = %.60q, %d, want %.60q, %d; they are %s", len(pieces), got, code, want, wantCode, brief(pieces))
	}
}

func checkRemake(t *testing.T, root string, pieces []impl.Piece, index int, want impl.Piece, wantCode int) {
	t.Helper()
	if got, code := impl.Remake(root, pieces, index); !samePiece(got, want) || code != wantCode {
		t.Fatalf("Remake of %d from %d pieces = %s, %d, want %s, %d; they are %s", index, len(pieces), brief(got), code, brief(want), wantCode, brief(pieces))
	}
}

// checkRemakeAll wants each piece of a cutting to be made again, and none at an index that it has not.
func checkRemakeAll(t *testing.T, root string, pieces []impl.Piece, all []impl.Piece) {
	t.Helper()
	for index, want := range all {
		checkRemake(t, root, pieces, index, want, impl.GetOk)
	}
	for _, index := range []int{-1, len(all), len(all) + 1, 256, -256, 1 << 32, -(1 << 32), math.MaxInt, math.MinInt} {
		checkRemake(t, root, pieces, index, impl.Piece{}, impl.GetBad)
	}
}

// checkGot wants the text and each piece of its cutting from these pieces.
func checkGot(t *testing.T, data string, all []impl.Piece, pieces []impl.Piece) {
	t.Helper()
	checkRegain(t, all[0].Root, pieces, data, impl.GetOk)
	checkRemakeAll(t, all[0].Root, pieces, all)
}

// checkNotGot wants one code of both, whatever the index.
func checkNotGot(t *testing.T, root string, pieces []impl.Piece, code int) {
	t.Helper()
	checkRegain(t, root, pieces, "", code)
	for _, index := range []int{0, 1, 3, 15, -1, 16, 256, math.MaxInt, math.MinInt} {
		checkRemake(t, root, pieces, index, impl.Piece{}, code)
	}
}

func checkReadBack(t *testing.T, p impl.Piece) {
	t.Helper()
	if got, ok := impl.ReadPiece(impl.PieceText(p)); !ok || !samePiece(got, p) {
		t.Fatalf("ReadPiece(%.200q) = %s, %v, want %s", impl.PieceText(p), brief(got), ok, brief(p))
	}
}

func checkNoPiece(t *testing.T, s string) {
	t.Helper()
	if got, ok := impl.ReadPiece(s); ok || !samePiece(got, impl.Piece{}) {
		t.Fatalf("ReadPiece(%.300q) = %s, %v, want the zero value", s, brief(got), ok)
	}
}

// checkNotOk wants a piece to check neither by itself nor by its text.
func checkNotOk(t *testing.T, p impl.Piece, why string) {
	t.Helper()
	if impl.PieceOk(p) {
		t.Fatalf("%s: PieceOk(%s) is true", why, brief(p))
	}
	checkNoPiece(t, impl.PieceText(p))
	if p.N < 1000 && p.Index == 0 { // it is not taken for one of its root either
		checkRegain(t, p.Root, []impl.Piece{p}, "", impl.GetFew)
		checkRemake(t, p.Root, []impl.Piece{p}, 0, impl.Piece{}, impl.GetFew)
	}
}

// checkCut wants the pieces that were reckoned apart, with all that each of them promises.
func checkCut(t *testing.T, data string, k int, n int) []impl.Piece {
	t.Helper()
	all, ok := impl.Cut(data, k, n)
	if want := longPieces(k, longEncode(data, k, n)); !ok || !slices.EqualFunc(all, want, samePiece) {
		t.Fatalf("Cut(%.60q, %d, %d) = %s, %v, want %s", data, k, n, brief(all), ok, brief(want))
	}
	for i, p := range all {
		if p.Index != i || p.Root != all[0].Root || p.K != k || p.N != n || !impl.PieceOk(p) {
			t.Fatalf("Cut(%.60q, %d, %d): piece %d is %s", data, k, n, i, brief(p))
		}
		checkReadBack(t, p)
	}
	if got := impl.RootOf(data, k, n); got != all[0].Root {
		t.Fatalf("RootOf(%.60q, %d, %d) = %x, want %x", data, k, n, got, all[0].Root)
	}
	return all
}

func TestPieceCodes(t *testing.T) {
	if impl.GetOk != 0 || impl.GetFew != 1 || impl.GetBad != 2 {
		t.Errorf("the codes are %d, %d, %d", impl.GetOk, impl.GetFew, impl.GetBad)
	}
}

// The sums that are written out in this file were reckoned by OpenSSL's SipHash.
func TestPieceLeavesWrittenOut(t *testing.T) {
	for _, c := range []struct {
		k, n, index int
		body        string
		want        string
	}{
		{0, 0, 0, "", "a598f75d0ceb7726e1e7b6369e2e7ec0"},
		{2, 4, 1, "ab", "c1466f0d8c2b8bb5d4fba500bcd9d92d"},
		{255, 255, 255, "x", "56733825602df985775310808cef83c4"},
		{1, 1, 0, strings.Repeat("x", 255), "7bfa3c7e92c5a0a019575d7cc6243807"},
		{1, 1, 0, strings.Repeat("x", 256), "f23073794b51a72d7a9d2a3f18fbf621"},
		{1, 1, 0, strings.Repeat("x", 257), "362c55e55daccf03eee8d057212a7a68"},
		{16, 16, 15, strings.Repeat("x", 2002), "9a5ac7102f4c48fbc0012b1f8a0e3c6e"},
	} {
		if got := impl.PieceLeaf(c.k, c.n, c.index, c.body); got != unhex(t, c.want) {
			t.Errorf("PieceLeaf(%d, %d, %d, %.20q) = %x, want %s", c.k, c.n, c.index, c.body, got, c.want)
		}
	}
}

func TestPieceLeavesByMeaning(t *testing.T) {
	d := drawer(100)
	sizes := []int{511, 512, 513, 2001, 2002, 2003, 65535, 65536, 70000}
	for size := range 300 {
		sizes = append(sizes, size)
	}
	for _, size := range sizes {
		body := d.text(size)
		for _, c := range [][3]int{{2, 4, 1}, {0, 0, 0}, {255, 255, 255}, {0, 255, 0}, {255, 0, 1}, {17, 1, 200}, {d.below(256), d.below(256), d.below(256)}} {
			got := impl.PieceLeaf(c[0], c[1], c[2], body)
			whole := headed(c[0], c[1], c[2], body)
			if got != impl.Leaf(whole) || size < 600 && got != longSumText("\x00"+whole) {
				t.Fatalf("PieceLeaf(%v, %d bytes) = %x", c, size, got)
			}
		}
	}
}

// A leaf hangs on each of the four bytes ahead of the body.
func TestPieceLeavesThatDiffer(t *testing.T) {
	seen := map[string][3]int{}
	for k := range 17 {
		for n := range 17 {
			for index := range 17 {
				leaf := impl.PieceLeaf(k, n, index, "body")
				if other, ok := seen[leaf]; ok {
					t.Fatalf("%v and %v have one leaf", [3]int{k, n, index}, other)
				}
				seen[leaf] = [3]int{k, n, index}
			}
		}
	}
	if impl.PieceLeaf(1, 2, 3, "\x04") == impl.PieceLeaf(1, 2, 3, "\x04\x00") || impl.PieceLeaf(1, 1, 0, "") == impl.PieceLeaf(1, 1, 0, "\x00") {
		t.Error("two bodies have one leaf")
	}
}

func TestPieceLeafRefuses(t *testing.T) {
	for _, x := range []int{-1, -2, -255, -256, 256, 257, 511, 512, 1 << 16, 1 << 32, 1<<32 + 2, -(1 << 32) + 2, math.MaxInt, math.MinInt, math.MinInt + 2} {
		for _, body := range []string{"", "ab", strings.Repeat("x", 256)} {
			for _, c := range [][3]int{{x, 4, 1}, {2, x, 1}, {2, 4, x}, {x, x, 1}, {x, 4, x}, {2, x, x}, {x, x, x}} {
				if got := impl.PieceLeaf(c[0], c[1], c[2], body); got != "" {
					t.Errorf("PieceLeaf(%v, %d bytes) = %x, want the empty text", c, len(body), got)
				}
			}
		}
	}
}

func TestPieceRootsWrittenOut(t *testing.T) {
	wide := strings.Repeat("x", 2000)
	for _, c := range []struct {
		data string
		k, n int
		want string
	}{
		{"ab", 2, 4, "309703fcab197a42aa9ee84a4ada3169"},
		{"", 1, 1, "0250448c0973f2f9bcedee9876085e65"},
		{"", 2, 4, "20c42477264e45fc67b38e54ed6ebda2"},
		{"farstore", 1, 3, "b92de6baf52dea64fc426fce053837f0"},
		{"farstore", 3, 3, "76c1be01e0abd9b061c95d5db92b8640"},
		{"farstore", 3, 7, "b3b68653b4b7547fe1e0fefe0c305a49"},
		{"farstore", 16, 16, "cdc4e654950584125fc717fb2e71b1ed"},
		{wide, 1, 1, "51b530282a9eddef0f2267a02345a5fd"},
		{wide, 4, 10, "988d488e1a387900c0f69c213f022613"},
		{wide, 16, 16, "e0b445c4e9a5336a12e48223408c222d"},
	} {
		if got := impl.RootOf(c.data, c.k, c.n); got != unhex(t, c.want) {
			t.Errorf("RootOf(%.20q, %d, %d) = %x, want %s", c.data, c.k, c.n, got, c.want)
		}
		if all, ok := impl.Cut(c.data, c.k, c.n); !ok || len(all) != c.n || all[c.n-1].Root != unhex(t, c.want) {
			t.Errorf("Cut(%.20q, %d, %d) = %s, %v", c.data, c.k, c.n, brief(all), ok)
		}
	}
}

func TestPieceTextsWrittenOut(t *testing.T) {
	for _, c := range []struct {
		data        string
		k, n, index int
		want        string
	}{
		{"ab", 2, 4, 0, "309703fcab197a42aa9ee84a4ada3169 2 4 0 0002 2 c1466f0d8c2b8bb5d4fba500bcd9d92d eee355d3b822c162b4b5167c0a7557e5"},
		{"ab", 2, 4, 3, "309703fcab197a42aa9ee84a4ada3169 2 4 3 bec4 2 b6f3d831bda1773f64b98b872bb7c682 e88204af86c842d685ee69b08514c5c3"},
		{"", 1, 1, 0, "0250448c0973f2f9bcedee9876085e65 1 1 0 0000 0"},
		{"farstore", 2, 5, 4, "16c9acd15b2fa1ba4e1b09e7ccaf1329 2 5 4 bded7f4578 1 abeaf67abaecffa053be59a2f0241ce0"},
		{"farstore", 3, 16, 11, "0929d52fb3b852d27cdc967ebf323c73 3 16 11 d169adcf 4 889451e6cc1c737be5ef3837d62cc277 8078241f94ee04968ecbb76f84dbc369 440dec35f76c466a5749c6dc0d2275cc 96802e3ea9cf77fc3a824997ee8cba6a"},
	} {
		all, _ := impl.Cut(c.data, c.k, c.n)
		if got := impl.PieceText(all[c.index]); got != c.want {
			t.Errorf("PieceText of %d of Cut(%q, %d, %d) = %q, want %q", c.index, c.data, c.k, c.n, got, c.want)
		}
		if got, ok := impl.ReadPiece(c.want); !ok || !samePiece(got, all[c.index]) {
			t.Errorf("ReadPiece(%q) = %s, %v", c.want, brief(got), ok)
		}
	}
}

func TestPieceTextsOfAnyPieces(t *testing.T) {
	for _, c := range []struct {
		piece impl.Piece
		want  string
	}{
		{impl.Piece{}, "- 0 0 0 - 0"},
		{impl.Piece{Proof: []string{}}, "- 0 0 0 - 0"},
		{impl.Piece{Root: "a", K: 1, N: 2, Index: 3, Body: "bc", Proof: []string{"d"}}, "61 1 2 3 6263 1 64"},
		{impl.Piece{Root: "-", Body: " ", Proof: []string{""}}, "2d 0 0 0 20 1 -"},
		{impl.Piece{Proof: []string{"", "\x00", ""}}, "- 0 0 0 - 3 - 00 -"},
		{impl.Piece{K: -1, N: -20, Index: math.MinInt}, "- -1 -20 -9223372036854775808 - 0"},
		{impl.Piece{K: math.MaxInt, N: 100, Index: 10, Body: "\xff"}, "- 9223372036854775807 100 10 ff 0"},
		{impl.Piece{Proof: slices.Repeat([]string{"p"}, 12)}, "- 0 0 0 - 12" + strings.Repeat(" 70", 12)},
	} {
		if got := impl.PieceText(c.piece); got != c.want {
			t.Errorf("PieceText(%s) = %q, want %q", brief(c.piece), got, c.want)
		}
		checkNoPiece(t, c.want)
	}
	long := strings.Repeat("\xab", 5000)
	if got := impl.PieceText(impl.Piece{Root: long, Body: long, Proof: []string{long}}); got != strings.Repeat("ab", 5000)+" 0 0 0 "+strings.Repeat("ab", 5000)+" 1 "+strings.Repeat("ab", 5000) {
		t.Errorf("PieceText of long texts = %.100q", got)
	}
}

func TestPieceCutByMeaning(t *testing.T) {
	d := drawer(101)
	for n := 1; n <= 16; n++ {
		for k := 1; k <= n; k++ {
			for _, size := range []int{0, 1, k, 2*k + 1, 100 + d.below(100)} {
				checkCut(t, d.text(size), k, n)
			}
		}
	}
	for _, c := range [][2]int{{1, 1}, {1, 2}, {1, 16}, {2, 4}, {3, 7}, {4, 10}, {16, 16}} {
		for _, data := range []string{d.text(254), d.text(255), d.text(1999), d.text(2000), strings.Repeat("\x00", 2000), strings.Repeat("\xff", 2000)} {
			checkCut(t, data, c[0], c[1])
		}
	}
}

func TestPieceCutRefuses(t *testing.T) {
	d := drawer(102)
	checkNone := func(data string, k int, n int) {
		t.Helper()
		if got, ok := impl.Cut(data, k, n); ok || len(got) != 0 {
			t.Errorf("Cut of %d bytes, %d, %d = %s, %v, want nothing", len(data), k, n, brief(got), ok)
		}
		if got := impl.RootOf(data, k, n); got != "" {
			t.Errorf("RootOf %d bytes, %d, %d = %x, want the empty text", len(data), k, n, got)
		}
	}
	for _, pair := range noParts() {
		for _, data := range []string{"", "a", d.text(2000), d.text(2001)} {
			checkNone(data, pair[0], pair[1])
		}
	}
	for _, size := range []int{2001, 2002, 4000, 65536, 65536 + 5} {
		for _, c := range [][2]int{{1, 1}, {2, 4}, {16, 16}} {
			checkNone(d.text(size), c[0], c[1])
		}
	}
}

// Each set of pieces of a small cutting is taken, in some order.
func TestPieceAnyPiecesAreEnough(t *testing.T) {
	d := drawer(103)
	for n := 1; n <= 7; n++ {
		for k := 1; k <= n; k++ {
			data := d.text(d.below(5 * k))
			all := checkCut(t, data, k, n)
			for set := range 1 << n {
				places := placesOf(set)
				some := pickPieces(pickPieces(all, places), d.order(len(places)))
				if len(places) < k {
					checkNotGot(t, all[0].Root, some, impl.GetFew)
					continue
				}
				checkGot(t, data, all, some)
			}
		}
	}
}

func TestPieceGreaterCuttings(t *testing.T) {
	d := drawer(104)
	for _, c := range [][3]int{{1, 1, 2000}, {1, 16, 2000}, {1, 16, 0}, {16, 16, 0}, {16, 16, 1}, {16, 16, 2000}, {8, 16, 500}, {15, 16, 77}, {4, 10, 2000}, {3, 13, 0}, {12, 12, 300}} {
		k, n, data := c[0], c[1], d.text(c[2])
		all := checkCut(t, data, k, n)
		for range 4 {
			order := d.order(n)
			checkGot(t, data, all, pickPieces(all, order[:k]))
			checkGot(t, data, all, pickPieces(all, order[:k+d.below(n-k+1)]))
			checkGot(t, data, all, pickPieces(all, order))
			checkNotGot(t, all[0].Root, pickPieces(all, order[:k-1]), impl.GetFew)
		}
		last := slices.Clone(all[n-k:])
		slices.Reverse(last)
		checkGot(t, data, all, last)
	}
}

func TestPieceRemadeOnesAreAsGood(t *testing.T) {
	all := checkCut(t, "made again and again", 3, 7)
	some := pickPieces(all, []int{6, 2, 4})
	for range 3 {
		again := []impl.Piece{}
		for _, index := range []int{0, 5, 1} {
			p, code := impl.Remake(all[0].Root, some, index)
			if code != impl.GetOk || !impl.PieceOk(p) {
				t.Fatalf("Remake of %d = %s, %d", index, brief(p), code)
			}
			again = append(again, p)
		}
		some = again
		checkGot(t, "made again and again", all, some)
	}
}

func TestPieceTwoOfOneIndexAreOne(t *testing.T) {
	all := checkCut(t, "twice is once", 3, 5)
	root := all[0].Root
	for _, places := range [][]int{{1, 1, 1}, {0, 4, 0}, {0, 4, 4, 0, 0, 4}, {2, 2, 2, 2, 2, 2, 3}} {
		checkNotGot(t, root, pickPieces(all, places), impl.GetFew)
	}
	for _, places := range [][]int{{1, 1, 1, 0, 2}, {4, 4, 0, 0, 3, 3}, {2, 2, 2, 2, 2, 2, 3, 4}, {0, 1, 2, 3, 4, 4, 3, 2, 1, 0}} {
		checkGot(t, "twice is once", all, pickPieces(all, places))
	}
}

func TestPieceAtMostSixtyFour(t *testing.T) {
	all := checkCut(t, "sixty-four of them", 2, 4)
	root := all[0].Root
	junk := slices.Repeat([]impl.Piece{otherPiece(all[2], func(p *impl.Piece) { p.Body += "x" })}, 70)
	checkGot(t, "sixty-four of them", all, slices.Concat(junk[:62], all[1:3]))
	checkGot(t, "sixty-four of them", all, slices.Concat(all[1:3], junk[:62]))
	checkGot(t, "sixty-four of them", all, slices.Repeat(all, 16))
	checkGot(t, "sixty-four of them", all, slices.Concat(all[2:], junk[:61]))
	for _, pieces := range [][]impl.Piece{slices.Concat(junk[:63], all[1:3]), slices.Concat(all[1:3], junk[:63]), slices.Repeat(all, 17)[:65], slices.Repeat(all, 16+64), slices.Concat(all, make([]impl.Piece, 61)), make([]impl.Piece, 65)} {
		if len(pieces) < 65 {
			t.Fatalf("only %d pieces", len(pieces))
		}
		checkNotGot(t, root, pieces, impl.GetFew)
		checkNotGot(t, "", pieces, impl.GetFew)
	}
	lie := longPieces(2, withTextAt(longEncode("sixty-four of them", 2, 4), 3, all[2].Body))
	checkNotGot(t, lie[0].Root, slices.Repeat(lie, 16), impl.GetBad)
	checkNotGot(t, lie[0].Root, slices.Repeat(lie, 17), impl.GetFew)
}

func TestPieceNoneOrOfNoRoot(t *testing.T) {
	all := checkCut(t, "of which root", 2, 4)
	for _, none := range [][]impl.Piece{nil, {}, {{}}, make([]impl.Piece, 4), make([]impl.Piece, 64)} {
		for _, root := range []string{"", all[0].Root, "short"} {
			checkNotGot(t, root, none, impl.GetFew)
		}
	}
	place := len(all[0].Root) - 1
	for _, root := range []string{"", "short", all[0].Root[:15], all[0].Root + "\x00", changed(all[0].Root, place, 1), impl.Leaf(""), impl.RootOf("of which root", 2, 5), impl.RootOf("of which root", 3, 4), impl.RootOf("of another root", 2, 4)} {
		checkNotGot(t, root, all, impl.GetFew)
		renamed := slices.Clone(all)
		for i := range renamed {
			renamed[i].Root = root
		}
		checkNotGot(t, root, renamed, impl.GetFew)
	}
}

func TestPieceOtherCuttingsMixedIn(t *testing.T) {
	d := drawer(105)
	data := "several cuttings of one text"
	cuttings := [][]impl.Piece{checkCut(t, data, 2, 4), checkCut(t, data, 3, 4), checkCut(t, data, 2, 5), checkCut(t, data, 1, 1), checkCut(t, data, 5, 16), checkCut(t, "another text", 2, 4)}
	pool := slices.Concat(cuttings...)
	for range 10 {
		mixed := pickPieces(pool, d.order(len(pool)))
		for i, all := range cuttings {
			want := data
			if i == 5 {
				want = "another text"
			}
			checkGot(t, want, all, mixed)
			left := slices.DeleteFunc(slices.Clone(mixed), func(p impl.Piece) bool { return p.Root == all[0].Root && p.Index >= p.K-1 })
			checkNotGot(t, all[0].Root, left, impl.GetFew)
		}
	}
}

// A piece that does not check tells no K and N, though it stands first and has the root.
func TestPieceTheFirstThatChecksTellsKAndN(t *testing.T) {
	all := checkCut(t, "the first that checks", 2, 4)
	other := checkCut(t, "the first that checks", 1, 3)
	for _, change := range []func(p *impl.Piece){
		func(p *impl.Piece) { p.K = 1 },
		func(p *impl.Piece) { p.K = 3 },
		func(p *impl.Piece) { p.N = 5 },
		func(p *impl.Piece) { p.N = 3 },
		func(p *impl.Piece) { p.Index = 3 },
		func(p *impl.Piece) { p.Body += "x" },
		func(p *impl.Piece) { p.Proof = nil },
		func(p *impl.Piece) { p.Body = other[0].Body; p.K, p.N, p.Proof = 1, 3, other[0].Proof },
	} {
		bad := otherPiece(all[0], change)
		checkGot(t, "the first that checks", all, []impl.Piece{bad, all[3], all[0]})
		checkGot(t, "the first that checks", all, []impl.Piece{bad, bad, all[1], bad, all[2], bad})
		checkNotGot(t, all[0].Root, []impl.Piece{bad, all[3]}, impl.GetFew)
	}
	checkGot(t, "the first that checks", all, []impl.Piece{other[0], other[1], all[3], other[2], all[0]})
}

// Pieces of several K that check under one root: only those of the first one's K count.
func TestPieceSeveralKUnderOneRoot(t *testing.T) {
	bodies := longEncode("several k", 2, 4)
	mixed := []impl.Piece{}
	for i, k := range []int{1, 2, 2, 3} {
		mixed = append(mixed, impl.Piece{K: k, N: 4, Index: i, Body: bodies[i]})
	}
	mixed = bound(mixed)
	for _, p := range mixed {
		if !impl.PieceOk(p) {
			t.Fatalf("%s does not check", brief(p))
		}
	}
	for _, c := range []struct {
		places []int
		want   int
	}{
		{[]int{0}, impl.GetBad}, {[]int{0, 1, 2, 3}, impl.GetBad}, {[]int{0, 3}, impl.GetBad},
		{[]int{1}, impl.GetFew}, {[]int{1, 0}, impl.GetFew}, {[]int{1, 0, 3}, impl.GetFew}, {[]int{2, 3, 0}, impl.GetFew},
		{[]int{1, 2}, impl.GetBad}, {[]int{1, 0, 3, 2}, impl.GetBad}, {[]int{2, 3, 1}, impl.GetBad},
		{[]int{3}, impl.GetFew}, {[]int{3, 0, 1, 2}, impl.GetFew}, {[]int{3, 2, 1}, impl.GetFew},
	} {
		checkNotGot(t, mixed[0].Root, pickPieces(mixed, c.places), c.want)
	}
}

// The first of three and of four leaves have one way up: so pieces of several N can check under one root.
func TestPieceSeveralNUnderOneRoot(t *testing.T) {
	bodies := longEncode("several n", 2, 4)
	mixed := bound([]impl.Piece{{K: 2, N: 4, Index: 0, Body: bodies[0]}, {K: 2, N: 3, Index: 1, Body: bodies[1]}, {K: 2, N: 3, Index: 2, Body: bodies[2]}})
	for _, p := range mixed {
		if !impl.PieceOk(p) {
			t.Fatalf("%s does not check", brief(p))
		}
	}
	for _, c := range []struct {
		places []int
		want   int
	}{
		{[]int{0}, impl.GetFew}, {[]int{0, 1}, impl.GetFew}, {[]int{0, 1, 2}, impl.GetFew}, {[]int{0, 2, 1}, impl.GetFew},
		{[]int{1}, impl.GetFew}, {[]int{1, 0}, impl.GetFew}, {[]int{2, 0}, impl.GetFew},
		{[]int{1, 2}, impl.GetBad}, {[]int{1, 0, 2}, impl.GetBad}, {[]int{2, 0, 1}, impl.GetBad},
	} {
		checkNotGot(t, mixed[0].Root, pickPieces(mixed, c.places), c.want)
	}
}

// checkLie wants pieces to check one by one, and no answer but GetBad from whichever K of them or more.
func checkLie(t *testing.T, pieces []impl.Piece) {
	t.Helper()
	for _, p := range pieces {
		if !impl.PieceOk(p) {
			t.Fatalf("%s does not check", brief(p))
		}
		checkReadBack(t, p)
	}
	for set := range 1 << len(pieces) {
		some := pickPieces(pieces, placesOf(set))
		code := impl.GetBad
		if len(some) < pieces[0].K {
			code = impl.GetFew
		}
		checkNotGot(t, pieces[0].Root, some, code)
		slices.Reverse(some)
		checkNotGot(t, pieces[0].Root, some, code)
	}
}

func TestPieceBodiesThatDoNotGoTogether(t *testing.T) {
	d := drawer(106)
	for _, c := range [][2]int{{1, 2}, {1, 3}, {2, 3}, {2, 4}, {3, 4}, {3, 6}, {5, 6}} {
		k, n := c[0], c[1]
		all := longEncode(d.text(3*k), k, n)
		for i, body := range all {
			checkLie(t, longPieces(k, withTextAt(all, i, changed(body, d.below(len(body)), 1+d.below(255)))))
		}
		turned := slices.Clone(all)
		slices.Reverse(turned)
		if !slices.Equal(turned, all) && !impl.Agree(k, n, turned) {
			checkLie(t, longPieces(k, turned))
		}
	}
}

func TestPieceBodiesOfSeveralLengths(t *testing.T) {
	d := drawer(107)
	for _, c := range [][2]int{{1, 2}, {2, 2}, {2, 3}, {2, 4}, {3, 3}, {3, 5}} {
		k, n := c[0], c[1]
		all := longEncode(d.text(3*k), k, n)
		for i, body := range all {
			for _, other := range []string{body + "\x00", body[:len(body)-1], body + strings.Repeat("\x00", 256), strings.Repeat("\x00", 2002)} {
				checkLie(t, longPieces(k, withTextAt(all, i, other)))
			}
		}
	}
}

// checkNoTold wants bodies that go together but tell no text: no text of whichever K, but each piece again.
func checkNoTold(t *testing.T, d *drawer, whole string, k int, n int) {
	t.Helper()
	all := longPieces(k, longWhole(whole, k, n, len(whole)/k))
	for _, p := range all {
		if !impl.PieceOk(p) {
			t.Fatalf("%s does not check", brief(p))
		}
		checkReadBack(t, p)
	}
	for _, count := range []int{k, n, k + d.below(n-k+1)} {
		some := pickPieces(all, d.order(n)[:count])
		checkRegain(t, all[0].Root, some, "", impl.GetBad)
		checkRemakeAll(t, all[0].Root, some, all)
	}
	checkNotGot(t, all[0].Root, pickPieces(all, d.order(n)[:k-1]), impl.GetFew)
}

func TestPieceBodiesThatTellNoText(t *testing.T) {
	d := drawer(108)
	for _, c := range [][2]int{{1, 1}, {1, 4}, {2, 2}, {2, 4}, {3, 7}, {4, 10}, {16, 16}} {
		k, n := c[0], c[1]
		for length := 1; length <= 4; length++ {
			for _, whole := range []string{strings.Repeat("\xff", k*length), strings.Repeat("\x07", k*length), d.text(k * length)} {
				if _, tells := tellsText(whole, k); !tells {
					checkNoTold(t, &d, whole, k, n)
				}
			}
		}
		checkNoTold(t, &d, strings.Repeat("\x00", 16*k*3), k, n) // a longer cutting of no bytes
		checkNoTold(t, &d, strings.Repeat("\x00", 2002*k)[:2002*k-1]+"\x01", k, n)
	}
	checkNoTold(t, &d, "\x00\x01a\x01", 2, 4) // no nought behind the text
	checkNoTold(t, &d, "\x00\x03ab", 2, 4)    // a longer text than there is room for
}

func TestPieceOfOneByte(t *testing.T) {
	d := drawer(109)
	for x := range 256 {
		checkNoTold(t, &d, string([]byte{byte(x)}), 1, 3)
	}
}

func TestPieceOk(t *testing.T) {
	for _, c := range [][2]int{{1, 1}, {1, 2}, {2, 3}, {2, 4}, {5, 7}, {1, 16}, {16, 16}} {
		k, n := c[0], c[1]
		for _, length := range []int{1, 2, 255, 256, 257, 2001, 2002} {
			for _, p := range longPieces(k, slices.Repeat([]string{strings.Repeat("b", length)}, n)) {
				if !impl.PieceOk(p) {
					t.Fatalf("PieceOk of %d of %d, %d bytes, is false", p.Index, n, length)
				}
				checkReadBack(t, p)
			}
		}
	}
}

func TestPieceOkRefusesBodies(t *testing.T) {
	for _, c := range [][2]int{{1, 1}, {1, 2}, {2, 4}, {16, 16}} {
		for _, length := range []int{0, 2003, 2004, 2258, 4004, 65536 + 2} {
			for _, p := range longPieces(c[0], slices.Repeat([]string{strings.Repeat("b", length)}, c[1])) {
				checkNotOk(t, p, "a body of "+strconv.Itoa(length))
			}
		}
	}
}

// The leaves are those of the numbers' lowest bytes, so that only the numbers themselves are wrong.
func TestPieceOkRefusesNumbers(t *testing.T) {
	for _, c := range [][2]int{{0, 1}, {0, 4}, {0, 16}, {2, 1}, {5, 4}, {16, 15}, {17, 16}, {255, 16}, {1, 17}, {2, 17}, {17, 17}, {16, 17}, {2, 32}, {2, 64}, {33, 33}, {64, 64}, {-1, 4}, {-256, 4}, {258, 4}, {256 + 2, 256 + 4}, {math.MinInt, 4}, {math.MaxInt, 4}} {
		pieces := []impl.Piece{}
		for i := range min(c[1], 64) {
			pieces = append(pieces, impl.Piece{K: c[0], N: c[1], Index: i, Body: "body"})
		}
		for _, p := range bound(pieces) {
			checkNotOk(t, p, "k and n")
		}
	}
	one := bound([]impl.Piece{{K: 1, N: 1, Index: 0, Body: "body"}})[0]
	for _, n := range []int{0, -1, 256 + 1, 1 << 32, 1<<32 + 1, math.MaxInt, math.MinInt} {
		checkNotOk(t, otherPiece(one, func(p *impl.Piece) { p.N = n }), "n")
		checkNotOk(t, otherPiece(one, func(p *impl.Piece) { p.K, p.N = n, n }), "k and n alike")
	}
}

func TestPieceOkRefusesIndexes(t *testing.T) {
	for _, n := range []int{1, 2, 3, 4, 7, 16} {
		for i := range n {
			for _, index := range []int{-1, -2, n, n + 1, 16, 17, 64, 255, 256 + i, -256 + i, 1<<32 + i, math.MaxInt, math.MinInt, math.MinInt + i} {
				pieces := []impl.Piece{}
				for j := range n {
					pieces = append(pieces, impl.Piece{K: 1, N: n, Index: j, Body: "body"})
				}
				pieces[i].Index = index // the leaf is so, too
				if index >= 0 && index < n {
					continue
				}
				checkNotOk(t, bound(pieces)[i], "index")
			}
		}
	}
}

func TestPieceOkRefusesPiecesInAnothersPlace(t *testing.T) {
	d := drawer(110)
	for _, c := range [][2]int{{1, 2}, {2, 3}, {2, 4}, {3, 7}, {16, 16}} {
		all := checkCut(t, d.text(100), c[0], c[1])
		for i, p := range all {
			for j, q := range all {
				if i == j {
					continue
				}
				checkNotOk(t, otherPiece(p, func(p *impl.Piece) { p.Index = j }), "another index")
				if p.Body != q.Body { // with k 1 some bodies are alike
					checkNotOk(t, otherPiece(p, func(p *impl.Piece) { p.Body = q.Body }), "another body")
					checkNotOk(t, otherPiece(p, func(p *impl.Piece) { p.Index, p.Proof = j, q.Proof }), "another's index and proof")
				}
				checkNotOk(t, otherPiece(p, func(p *impl.Piece) { p.Proof = q.Proof }), "another's proof")
			}
			for k := -1; k <= 17; k++ {
				for n := -1; n <= 17; n++ {
					if k != c[0] || n != c[1] {
						checkNotOk(t, otherPiece(p, func(p *impl.Piece) { p.K, p.N = k, n }), "another k or n")
					}
				}
			}
		}
	}
}

func TestPieceOkRefusesEachChange(t *testing.T) {
	d := drawer(111)
	for _, c := range [][2]int{{1, 1}, {1, 2}, {2, 3}, {2, 4}, {3, 7}, {16, 16}} {
		for _, p := range checkCut(t, d.text(40), c[0], c[1]) {
			for place := range p.Root {
				checkNotOk(t, otherPiece(p, func(p *impl.Piece) { p.Root = changed(p.Root, place, 1+d.below(255)) }), "root")
			}
			for place := range p.Body {
				checkNotOk(t, otherPiece(p, func(p *impl.Piece) { p.Body = changed(p.Body, place, 1+d.below(255)) }), "body")
			}
			for _, body := range []string{"", p.Body + "\x00", "\x00" + p.Body, p.Body[:len(p.Body)-1], p.Body[1:], p.Body + strings.Repeat("\x00", 256)} {
				checkNotOk(t, otherPiece(p, func(p *impl.Piece) { p.Body = body }), "another length")
			}
			for i, text := range p.Proof {
				for _, other := range []string{"", text[:15], text + "\x00", changed(text, d.below(16), 1+d.below(255)), p.Root} {
					checkNotOk(t, otherPiece(p, func(p *impl.Piece) { p.Proof[i] = other }), "a text of the proof")
				}
				checkNotOk(t, otherPiece(p, func(p *impl.Piece) { p.Proof = slices.Delete(p.Proof, i, i+1) }), "a text too few")
				checkNotOk(t, otherPiece(p, func(p *impl.Piece) { p.Proof = p.Proof[:i] }), "a proof that ends too early")
			}
			for _, more := range []string{"", p.Root, impl.Leaf("more")} {
				checkNotOk(t, otherPiece(p, func(p *impl.Piece) { p.Proof = append(p.Proof, more) }), "a text too many")
				checkNotOk(t, otherPiece(p, func(p *impl.Piece) { p.Proof = slices.Insert(p.Proof, 0, more) }), "a text too many ahead")
			}
			for _, root := range []string{"", p.Root[:15], p.Root + "\x00", impl.Leaf("")} {
				checkNotOk(t, otherPiece(p, func(p *impl.Piece) { p.Root = root }), "another root")
			}
		}
	}
	checkNotOk(t, impl.Piece{}, "the zero value")
	checkNotOk(t, impl.Piece{Proof: make([]string, 100)}, "a hundred empty texts")
}

// someTexts are texts of pieces that check, of all numbers of texts that a proof may have.
func someTexts(t *testing.T) []string {
	list := []string{}
	for _, c := range [][3]int{{1, 1, 0}, {2, 3, 2}, {2, 4, 1}, {1, 7, 3}, {10, 16, 12}} {
		all, ok := impl.Cut("~\xab\xcd\xef text of texts \xfe", c[0], c[1])
		if !ok {
			t.Fatalf("Cut(%v) is refused", c)
		}
		list = append(list, impl.PieceText(all[c[2]]))
	}
	return list
}

func TestPieceReadRefusesOtherParts(t *testing.T) {
	for _, s := range someTexts(t) {
		parts := strings.Split(s, " ")
		for i, part := range parts {
			checkNoPiece(t, strings.Join(slices.Delete(slices.Clone(parts), i, i+1), " "))
			checkNoPiece(t, strings.Join(parts[:i], " "))
			checkNoPiece(t, strings.Join(parts[:i], " ")+" ")
			for _, other := range []string{"", "-", " ", "0", "00", "x", "0x" + part, part + " ", " " + part, part + "\t", part + "\n", "\t" + part, part + "\x00", "0" + part, "00" + part, "+" + part, "-" + part, part + "0", part + "00", part + "_0", part + ".0", part + "g", part + part, "99999999999999999999", "18446744073709551618", "9223372036854775807", "-9223372036854775808"} {
				if other != part {
					checkNoPiece(t, strings.Join(withTextAt(parts, i, other), " "))
				}
			}
			for _, more := range []string{"", "-", "0", "00", part, strings.Repeat("ab", 16)} {
				checkNoPiece(t, strings.Join(slices.Insert(slices.Clone(parts), i, more), " "))
			}
			if upper := strings.ToUpper(part); upper != part {
				checkNoPiece(t, strings.Join(withTextAt(parts, i, upper), " "))
			}
		}
		for _, blank := range []string{"  ", "", "\t", "\n", ",", "\u00a0", "\x00"} {
			checkNoPiece(t, strings.Replace(s, " ", blank, 1))
			checkNoPiece(t, strings.ReplaceAll(s, " ", blank))
		}
		for _, bad := range []string{" " + s, s + " ", s + "  ", s + "\n", "\n" + s, s + "\x00", s + " -", s + " 00", s + " " + s, s + s, s + " " + strings.Repeat("0", 32), strings.ToUpper(s)} {
			checkNoPiece(t, bad)
		}
	}
}

// How many texts a proof has must be told as it is, whatever stands behind.
func TestPieceReadRefusesOtherCounts(t *testing.T) {
	for _, s := range someTexts(t) {
		parts := strings.Split(s, " ")
		count := len(parts) - 6
		for _, other := range []int{-1, count - 1, count + 1, count + 10, 256 + count, math.MaxInt, math.MinInt} {
			checkNoPiece(t, strings.Join(withTextAt(parts, 5, strconv.Itoa(other)), " "))
			checkNoPiece(t, strings.Join(append(withTextAt(parts, 5, strconv.Itoa(other)), strings.Repeat("ab", 16)), " "))
			checkNoPiece(t, strings.Join(withTextAt(parts, 5, strconv.Itoa(other))[:max(6, len(parts)-1)], " "))
		}
	}
}

func TestPieceReadRefusesEachByteChanged(t *testing.T) {
	for _, s := range someTexts(t) {
		if _, ok := impl.ReadPiece(s); !ok {
			t.Fatalf("ReadPiece(%q) is false", s)
		}
		for place := range s {
			checkNoPiece(t, s[:place]+s[place+1:])
			for _, b := range []byte("0129abfgABF+- _.x\x00\n\xff") {
				if s[place] != b {
					checkNoPiece(t, s[:place]+string([]byte{b})+s[place+1:])
				}
				checkNoPiece(t, s[:place]+string([]byte{b})+s[place:])
			}
		}
	}
}

func TestPieceReadRefusesTextsOfNoPiece(t *testing.T) {
	for _, s := range []string{"", " ", "  ", "-", "- 0 0 0 - 0", "0 0 0 0 0 0", "     ", "      ", "- - - - - -", "\x00", "piece", strings.Repeat(" ", 1000), strings.Repeat("0 ", 5000), strings.Repeat("ab", 5000), "1 1 0 0000 0", strings.Repeat("00", 16) + " 1 1 0 00 0"} {
		checkNoPiece(t, s)
	}
	lie := longPieces(2, longEncode("a lie of a piece", 2, 4))
	for _, change := range []func(p *impl.Piece){
		func(p *impl.Piece) { p.Body = "ac" },
		func(p *impl.Piece) { p.K = 3 },
		func(p *impl.Piece) { p.Proof = p.Proof[:1] },
	} {
		checkNoPiece(t, impl.PieceText(otherPiece(lie[1], change)))
	}
}

// longPieceOk asks one thing after the other, apart from the program.
func longPieceOk(p impl.Piece) bool {
	if p.N < 1 || p.N > 16 || p.K < 1 || p.K > p.N || p.Index < 0 || p.Index >= p.N || len(p.Body) == 0 || len(p.Body) > 2002 {
		return false
	}
	if len(p.Proof) != longProofLen(p.Index, p.N) {
		return false
	}
	for _, text := range p.Proof {
		if len(text) != 16 {
			return false
		}
	}
	return longProofRoot(impl.Leaf(headed(p.K, p.N, p.Index, p.Body)), p.Index, p.N, p.Proof) == p.Root
}

// longGet is what must be answered of any pieces: the text and its code, and the pieces and theirs.
func longGet(root string, pieces []impl.Piece) (string, int, []impl.Piece, int) {
	good := map[int]impl.Piece{}
	k, n := 0, 0
	for _, p := range pieces {
		if !longPieceOk(p) || p.Root != root || k != 0 && (p.K != k || p.N != n) {
			continue
		}
		k, n = p.K, p.N
		if _, ok := good[p.Index]; !ok {
			good[p.Index] = p
		}
	}
	if len(pieces) > 64 || k == 0 || len(good) < k {
		return "", impl.GetFew, nil, impl.GetFew
	}
	places, bodies := []int{}, []string{}
	for index := range n {
		if p, ok := good[index]; ok && len(places) < k {
			places, bodies = append(places, index), append(bodies, p.Body)
		}
	}
	all, ok := impl.Bodies(k, n, places, bodies)
	if !ok {
		return "", impl.GetBad, nil, impl.GetBad
	}
	whole := longPieces(k, all)
	if whole[0].Root != root {
		return "", impl.GetBad, nil, impl.GetBad
	}
	text, ok := impl.Decode(k, n, places, bodies)
	if !ok {
		return "", impl.GetBad, whole, impl.GetOk
	}
	return text, impl.GetOk, whole, impl.GetOk
}

// anyCuttings are some that tell a text, some that tell none, and some that lie.
func (d *drawer) anyCuttings() [][]impl.Piece {
	list := [][]impl.Piece{}
	for range 4 {
		n := 1 + d.below(5)
		k := 1 + d.below(n)
		all := longEncode(d.text(d.below(9)), k, n)
		switch d.below(4) {
		case 0:
			all = longWhole(d.text(2*k), k, n, 2)
		case 1:
			all = withTextAt(all, d.below(n), d.text(1+d.below(4)))
		}
		pieces := longPieces(k, all)
		if d.below(4) == 0 {
			pieces[d.below(n)].K = 1 + d.below(n)
			pieces = bound(pieces)
		}
		list = append(list, pieces)
	}
	return list
}

// spoilt changes something of a piece.
func (d *drawer) spoilt(p impl.Piece) impl.Piece {
	return otherPiece(p, func(p *impl.Piece) {
		switch d.below(6) {
		case 0:
			p.K = d.below(7) - 1
		case 1:
			p.N = d.below(20) - 1
		case 2:
			p.Index = d.below(20) - 1
		case 3:
			p.Body = d.text(d.below(5))
		case 4:
			p.Root = d.text(d.below(20))
		case 5:
			p.Proof = append(p.Proof, d.text(d.below(20)))
		}
	})
}

func TestPieceAnyPieces(t *testing.T) {
	d := drawer(112)
	seen := map[[2]int]int{}
	for range 3000 {
		cuttings := d.anyCuttings()
		pieces := []impl.Piece{}
		for range d.below(14) {
			from := cuttings[d.below(1+d.below(len(cuttings)))]
			p := from[d.below(len(from))]
			if d.below(5) == 0 {
				p = d.spoilt(p)
			}
			if impl.PieceOk(p) != longPieceOk(p) {
				t.Fatalf("PieceOk(%s) is %v", brief(p), impl.PieceOk(p))
			}
			pieces = append(pieces, p)
		}
		root := cuttings[0][0].Root
		text, code, whole, codeWhole := longGet(root, pieces)
		seen[[2]int{code, codeWhole}]++
		checkRegain(t, root, pieces, text, code)
		for index := -1; index < 7; index++ {
			want, wantCode := impl.Piece{}, codeWhole
			if codeWhole == impl.GetOk && index >= 0 && index < len(whole) {
				want = whole[index]
			} else if codeWhole == impl.GetOk {
				wantCode = impl.GetBad
			}
			checkRemake(t, root, pieces, index, want, wantCode)
		}
	}
	for _, codes := range [][2]int{{impl.GetOk, impl.GetOk}, {impl.GetFew, impl.GetFew}, {impl.GetBad, impl.GetBad}, {impl.GetBad, impl.GetOk}} {
		if seen[codes] < 50 {
			t.Errorf("only %d with the codes %v: the test has grown weak", seen[codes], codes)
		}
	}
}

// roomyPieces are the pieces with spare room behind the list and behind each proof, and all of their memory.
func roomyPieces(pieces []impl.Piece) ([]impl.Piece, []impl.Piece, [][]string) {
	spare := impl.Piece{Root: "spare", Body: "room", Proof: []string{"kept"}}
	whole := append(slices.Clone(pieces), spare, spare)
	proofs := [][]string{}
	for i, p := range pieces {
		proof, memory := roomyTexts(p.Proof)
		whole[i].Proof = proof
		proofs = append(proofs, memory)
	}
	return whole[:len(pieces)], whole, proofs
}

func cloneProofs(proofs [][]string) [][]string {
	list := [][]string{}
	for _, proof := range proofs {
		list = append(list, slices.Clone(proof))
	}
	return list
}

// writeOver writes over all that an answer hands out, with the spare room behind it.
func writeOver(p impl.Piece) {
	for i := range p.Proof[:cap(p.Proof)] {
		p.Proof[:cap(p.Proof)][i] = "written over"
	}
}

func TestPieceWritesIntoNoList(t *testing.T) {
	d := drawer(113)
	for range 300 {
		cuttings := d.anyCuttings()
		list := pickPieces(cuttings[0], d.order(len(cuttings[0])))
		list = append(list, cuttings[1]...)
		list = append(list, d.spoilt(list[0]))
		pieces, memory, proofs := roomyPieces(list)
		kept, keptProofs := slices.Clone(memory), cloneProofs(proofs)
		for _, root := range []string{list[0].Root, cuttings[1][0].Root, ""} {
			impl.Regain(root, pieces)
			for index := -1; index < 6; index++ {
				p, _ := impl.Remake(root, pieces, index)
				writeOver(p)
			}
		}
		for _, p := range pieces {
			impl.PieceOk(p)
			read, _ := impl.ReadPiece(impl.PieceText(p))
			writeOver(read)
		}
		if !slices.EqualFunc(memory, kept, samePiece) || !slices.EqualFunc(proofs, keptProofs, slices.Equal[[]string]) {
			t.Fatalf("the pieces or the room behind them were written into: %s", brief(memory))
		}
	}
}

// textsOf are all texts of pieces.
func textsOf(pieces ...impl.Piece) []string {
	list := []string{}
	for _, p := range pieces {
		list = append(list, p.Root, p.Body)
		list = append(list, p.Proof...)
	}
	return list
}

func TestPieceAnswersAreNewMemory(t *testing.T) {
	d := drawer(114)
	for _, c := range [][2]int{{1, 1}, {1, 4}, {2, 2}, {2, 4}, {3, 7}, {16, 16}} {
		k, n, data := c[0], c[1], d.text(60)
		all, _ := impl.Cut(data, k, n)
		checkOwnTexts(t, textsOf(all...), []string{data})
		root := impl.RootOf(data, k, n)
		checkOwnTexts(t, []string{root}, append(textsOf(all...), data))
		some := pickPieces(all, d.order(n)[:k])
		given := append(textsOf(all...), root)
		text, code := impl.Regain(root, some)
		if text != data || code != impl.GetOk {
			t.Fatalf("%d, %d: Regain = %q, %d", k, n, text, code)
		}
		checkOwnTexts(t, []string{text}, given)
		for index := range n {
			p, _ := impl.Remake(root, some, index)
			checkOwnTexts(t, textsOf(p), given)
			line := impl.PieceText(p)
			read, _ := impl.ReadPiece(line)
			checkOwnTexts(t, append(textsOf(read), line), append(textsOf(p), given...))
			leaf := impl.PieceLeaf(k, n, index, p.Body)
			checkOwnTexts(t, []string{leaf}, textsOf(p))
		}
	}
}

// What is written into one proof of an answer is in no other.
func TestPieceProofsAreListsOfTheirOwn(t *testing.T) {
	all, _ := impl.Cut("lists of their own", 3, 7)
	kept, _ := impl.Cut("lists of their own", 3, 7)
	for i := range all {
		writeOver(all[i])
		if !slices.EqualFunc(all[i+1:], kept[i+1:], samePiece) {
			t.Fatalf("what is written into piece %d is in another", i)
		}
	}
	again, ok := impl.Cut("lists of their own", 3, 7)
	if !ok || !slices.EqualFunc(again, kept, samePiece) {
		t.Errorf("what was written into an answer is in the next one: %s", brief(again))
	}
}

func TestPieceKeepsNothing(t *testing.T) {
	all := checkCut(t, "kept by nobody", 2, 4)
	for range 3 {
		checkNotGot(t, all[0].Root, all[:1], impl.GetFew)
		checkGot(t, "kept by nobody", all, all[2:])
		checkNoPiece(t, "no piece")
		checkReadBack(t, all[1])
		checkNotGot(t, all[0].Root, nil, impl.GetFew)
		checkCut(t, "kept by nobody", 2, 4)
	}
}
