package tests

import (
	"encoding/hex"
	"fmt"
	"math"
	"regexp"
	"slices"
	"strconv"
	"strings"
	"testing"

	"loop.example/g00210/impl"
)

// endNumbers are numbers at the ends of the 64 bits and between.
var endNumbers = []int{math.MinInt, math.MinInt + 1, -(1 << 32), -256, -10, -2, -1, 0, 1, 2, 3, 9, 10, 255, 256, 1 << 32, math.MaxInt - 1, math.MaxInt}

const (
	numberForm = `(0|-?[1-9][0-9]*)`
	bytesForm  = `((?:[0-9a-f][0-9a-f])+)`
)

var (
	sayForm   = regexp.MustCompile(`(?s)\A` + numberForm + ` ` + numberForm + ` ` + numberForm + ` (-|` + bytesForm + `)( .*)?\z`)
	pieceForm = regexp.MustCompile(`\A ` + bytesForm + ` ` + numberForm + ` ` + numberForm + ` ` + numberForm + ` ` + bytesForm + ` ` + numberForm + `((?: ` + bytesForm + `)*)\z`)
)

func dashed(s string) string {
	if s == "" {
		return "-"
	}
	return fmt.Sprintf("%x", s)
}

// longAnyPieceText is any piece written out, apart from the program.
func longAnyPieceText(p impl.Piece) string {
	text := fmt.Sprintf("%s %d %d %d %s %d", dashed(p.Root), p.K, p.N, p.Index, dashed(p.Body), len(p.Proof))
	for _, sum := range p.Proof {
		text += " " + dashed(sum)
	}
	return text
}

func longSayText(s impl.Say) string {
	text := fmt.Sprintf("%d %d %d %s", s.Kind, s.From, s.To, dashed(s.Root))
	if s.Kind == 0 {
		text += " " + longAnyPieceText(s.Piece)
	}
	return text
}

// lineOf leaves the sum to the program, whose sums are tested apart: many are asked for.
func lineOf(text string) string {
	return fmt.Sprintf("%x %s\n", impl.Sum(text), text)
}

func longLine(s impl.Say) string {
	return lineOf(longSayText(s))
}

// asRead is a saying as it must be read back: what carries no piece has none.
func asRead(s impl.Say) impl.Say {
	if s.Kind != 0 {
		s.Piece = impl.Piece{}
	}
	return s
}

func isWritten(s impl.Say) bool {
	return s.Kind != 0 || longPieceOk(s.Piece)
}

// numbersOf tells whether all of these, of the form of a number, have their place in 64 bits.
func numbersOf(parts ...string) ([]int, bool) {
	numbers := []int{}
	for _, part := range parts {
		number, err := strconv.ParseInt(part, 10, 64)
		if err != nil {
			return nil, false
		}
		numbers = append(numbers, int(number))
	}
	return numbers, true
}

func bytesOf(digits string) string {
	text, err := hex.DecodeString(digits)
	if err != nil {
		panic(err)
	}
	return string(text)
}

// longReadPiece reads a piece's text with a blank ahead by its form.
func longReadPiece(text string) (impl.Piece, bool) {
	found := pieceForm.FindStringSubmatch(text)
	if found == nil {
		return impl.Piece{}, false
	}
	numbers, ok := numbersOf(found[2], found[3], found[4], found[6])
	if !ok {
		return impl.Piece{}, false
	}
	p := impl.Piece{Root: bytesOf(found[1]), K: numbers[0], N: numbers[1], Index: numbers[2], Body: bytesOf(found[5])}
	for _, digits := range strings.Fields(found[7]) {
		p.Proof = append(p.Proof, bytesOf(digits))
	}
	if len(p.Proof) != numbers[3] || !longPieceOk(p) {
		return impl.Piece{}, false
	}
	return p, true
}

// longReadSay reads any text by the form of a saying's text, apart from the program.
func longReadSay(text string) (impl.Say, bool) {
	found := sayForm.FindStringSubmatch(text)
	if found == nil {
		return impl.Say{}, false
	}
	numbers, ok := numbersOf(found[1], found[2], found[3])
	if !ok {
		return impl.Say{}, false
	}
	s := impl.Say{Kind: numbers[0], From: numbers[1], To: numbers[2], Root: bytesOf(found[5])}
	if s.Kind != 0 {
		if found[6] != "" {
			return impl.Say{}, false
		}
		return s, true
	}
	s.Piece, ok = longReadPiece(found[6])
	if !ok {
		return impl.Say{}, false
	}
	return s, true
}

// longShelfRead is what ShelfRead must tell of any text, by the document's words, apart from the program.
func longShelfRead(text string) ([]impl.Say, int) {
	says, end := []impl.Say{}, 0
	if len(text) > 200000 {
		return says, 0
	}
	for _, line := range strings.SplitAfter(text, "\n") {
		told, whole := strings.CutSuffix(line, "\n")
		if !whole || len(told) < 34 || line != lineOf(told[33:]) {
			break
		}
		s, ok := longReadSay(told[33:])
		if !ok {
			break
		}
		says, end = append(says, s), end+len(line)
	}
	return says, end
}

// longAnew is a node that heard just this, from its start on; any other node is as it is.
func longAnew(n impl.Node, says []impl.Say) impl.Node {
	if n.F < 1 || n.F > 3 || n.Id < 0 || n.Id > 3*n.F {
		return cloneNode(n)
	}
	n = impl.Node{Id: n.Id, F: n.F}
	for _, s := range says {
		n, _ = longHear(n, s)
	}
	return n
}

// longCrash counts what is left byte by byte.
func longCrash(s impl.Shelf, keep int) impl.Shelf {
	left := 0
	for left < len(s.Text) && left < s.Safe {
		left++
	}
	for more := 0; left < len(s.Text) && more < keep; more++ {
		left++
	}
	says, end := longShelfRead(s.Text[:left])
	return impl.Shelf{Node: longAnew(s.Node, says), Text: s.Text[:end], Safe: end}
}

func longShelfOk(s impl.Shelf) bool {
	says, end := longShelfRead(s.Text)
	return longNodeOk(s.Node) && s.Safe >= 0 && s.Safe <= len(s.Text) && end == len(s.Text) && sameNode(s.Node, longAnew(s.Node, says))
}

func longShelfHear(s impl.Shelf, x impl.Say) (impl.Shelf, []impl.Say) {
	line := longLine(x)
	if !isWritten(x) || len(s.Text)+len(line) > 200000 {
		return cloneShelf(s), nil
	}
	node, said := longHear(s.Node, x)
	return impl.Shelf{Node: node, Text: s.Text + line, Safe: s.Safe}, said
}

func sameShelf(a impl.Shelf, b impl.Shelf) bool {
	return sameNode(a.Node, b.Node) && a.Text == b.Text && a.Safe == b.Safe
}

func cloneShelf(s impl.Shelf) impl.Shelf {
	s.Node = cloneNode(s.Node)
	return s
}

// otherShelf is s with a change made to a copy of it.
func otherShelf(s impl.Shelf, change func(s *impl.Shelf)) impl.Shelf {
	s = cloneShelf(s)
	change(&s)
	return s
}

// briefShelf tells the end of a long text, too.
func briefShelf(s impl.Shelf) string {
	return fmt.Sprintf("%d bytes, %d of them safe, %.300q .. %q, %s", len(s.Text), s.Safe, s.Text, s.Text[max(0, len(s.Text)-60):], brief(s.Node))
}

func checkSayText(t *testing.T, s impl.Say, want string) {
	t.Helper()
	if got := impl.SayText(s); got != want {
		t.Fatalf("SayText(%s) = %.300q, want %.300q", brief(s), got, want)
	}
	if got := impl.ShelfLine(s); got != lineOf(want) {
		t.Fatalf("ShelfLine(%s) = %.300q, want %.300q", brief(s), got, lineOf(want))
	}
}

func checkReadSay(t *testing.T, text string, want impl.Say) {
	t.Helper()
	if got, ok := impl.ReadSay(text); !ok || !sameSay(got, want) {
		t.Fatalf("ReadSay(%.300q) = %s, %v, want %s", text, brief(got), ok, brief(want))
	}
	checkSayText(t, want, text)
}

func checkNoSay(t *testing.T, text string) {
	t.Helper()
	if got, ok := impl.ReadSay(text); ok || !sameSay(got, impl.Say{}) {
		t.Fatalf("ReadSay(%.300q) = %s, %v, want the zero value", text, brief(got), ok)
	}
}

// checkAnySay wants of any text what was reckoned apart, and tells whether it is a saying's.
func checkAnySay(t *testing.T, text string) bool {
	t.Helper()
	s, ok := longReadSay(text)
	if ok {
		checkReadSay(t, text, s)
	} else {
		checkNoSay(t, text)
	}
	return ok
}

func checkRead(t *testing.T, text string, want []impl.Say, wantEnd int) {
	t.Helper()
	if got, end := impl.ShelfRead(text); end != wantEnd || !slices.EqualFunc(got, want, sameSay) {
		t.Fatalf("ShelfRead of %d bytes, %.300q, tells %d, %s, up to byte %d; want %d, %s, up to %d", len(text), text, len(got), brief(got), end, len(want), brief(want), wantEnd)
	}
}

// checkHears wants what was reckoned apart.
func checkHears(t *testing.T, s impl.Shelf, x impl.Say) (impl.Shelf, []impl.Say) {
	t.Helper()
	want, wantSaid := longShelfHear(s, x)
	got, said := impl.ShelfHear(s, x)
	if !sameShelf(got, want) || !slices.EqualFunc(said, wantSaid, sameSay) {
		t.Fatalf("ShelfHear of %s = %s, %s, want %s, %s", brief(x), briefShelf(got), brief(said), briefShelf(want), brief(wantSaid))
	}
	return got, said
}

func checkHearsNot(t *testing.T, s impl.Shelf, x impl.Say, why string) {
	t.Helper()
	if got, said := checkHears(t, s, x); !sameShelf(got, s) || len(said) != 0 {
		t.Fatalf("%s: ShelfHear of %s = %s, %s, want the shelf as it is and nothing", why, brief(x), briefShelf(got), brief(said))
	}
}

func checkSync(t *testing.T, s impl.Shelf) impl.Shelf {
	t.Helper()
	want := impl.Shelf{Node: s.Node, Text: s.Text, Safe: len(s.Text)}
	got := impl.ShelfSync(s)
	if !sameShelf(got, want) {
		t.Fatalf("ShelfSync = %s, want %s", briefShelf(got), briefShelf(want))
	}
	return got
}

func checkCrash(t *testing.T, s impl.Shelf, keep int) impl.Shelf {
	t.Helper()
	want := longCrash(s, keep)
	got := impl.ShelfCrash(s, keep)
	if !sameShelf(got, want) {
		t.Fatalf("ShelfCrash with %d kept = %s, want %s; the shelf was %s", keep, briefShelf(got), briefShelf(want), briefShelf(s))
	}
	return got
}

func checkShelf(t *testing.T, s impl.Shelf, want bool, why string) {
	t.Helper()
	if got := impl.ShelfOk(s); got != want || longShelfOk(s) != want {
		t.Fatalf("%s: ShelfOk is %v, reckoned apart it is %v, want %v; the shelf is %s", why, got, longShelfOk(s), want, briefShelf(s))
	}
}

// linesOf are the lines of a shelf's text, one behind another.
func linesOf(says []impl.Say) string {
	text := ""
	for _, s := range says {
		text += longLine(s)
	}
	return text
}

// someSayings are of all Kinds, with pieces of several forms.
func someSayings() []impl.Say {
	brought := longSays("ab", 1)
	root := brought[0].Root
	one := longPieces(1, longEncode("", 1, 1))[0]
	wide := longPieces(10, longEncode("~\xab\xcd\xef text of texts \xfe", 10, 16))[12]
	return []impl.Say{
		brought[2],
		echoOf(0, 2, root),
		readyOf(3, 2, root),
		{Kind: 0, From: 3, To: 7, Root: "another root", Piece: brought[1].Piece},
		{Kind: 0, From: -1, To: 0, Root: "", Piece: one},
		{Kind: 0, From: 12, To: -7, Root: wide.Root, Piece: wide},
		{Kind: 1, From: -1, To: -1, Root: ""},
		{Kind: 2, From: 10, To: 100, Root: "\x00"},
		{Kind: 7, From: -2, To: 2, Root: "-"},
		{Kind: -1, From: 0, To: 0, Root: allBytes()},
		echoOf(1, 2, root),
	}
}

func TestShelfNumber(t *testing.T) {
	if impl.MaxShelf != 200000 {
		t.Errorf("the number is %d", impl.MaxShelf)
	}
}

// The sums are numbers of another program, as are the texts of the pieces.
func TestShelfLinesWrittenOut(t *testing.T) {
	ab, _ := impl.Cut("ab", 2, 4)
	none, _ := impl.Cut("", 1, 1)
	root := "309703fcab197a42aa9ee84a4ada3169"
	for _, c := range []struct {
		say  impl.Say
		text string
		sum  string
	}{
		{impl.Say{Kind: impl.SayPiece, From: -1, To: 0, Root: ab[0].Root, Piece: ab[0]}, "0 -1 0 " + root + " " + root + " 2 4 0 0002 2 c1466f0d8c2b8bb5d4fba500bcd9d92d eee355d3b822c162b4b5167c0a7557e5", "3bd6b469f941bdd23230a08932937e85"},
		{impl.Say{Kind: impl.SayPiece, From: 2, To: 3, Root: ab[0].Root, Piece: ab[3]}, "0 2 3 " + root + " " + root + " 2 4 3 bec4 2 b6f3d831bda1773f64b98b872bb7c682 e88204af86c842d685ee69b08514c5c3", "540c31f146a0c11f2466e72a69b4b888"},
		{impl.Say{Piece: none[0]}, "0 0 0 - 0250448c0973f2f9bcedee9876085e65 1 1 0 0000 0", "30f0cb7bcb6ea526d0105d92ba8f9236"},
		{impl.Say{Kind: impl.SayEcho, From: 0, To: 2, Root: ab[0].Root}, "1 0 2 " + root, "831b180b47d025ec3c80ca9d29d17d82"},
		{impl.Say{Kind: impl.SayReady, From: 3, To: 1, Root: ab[0].Root}, "2 3 1 " + root, "625b3e41c503c69d41f04820c2313939"},
		{impl.Say{Kind: impl.SayEcho, From: -2, To: 7}, "1 -2 7 -", "0370377b7b9963a1e9d9e282d3149566"},
		{impl.Say{Kind: impl.SayReady}, "2 0 0 -", "b0f5036b578bcdfa7d949e012476475d"},
		{impl.Say{Kind: 7, From: math.MaxInt, To: math.MinInt, Root: "\x00"}, "7 9223372036854775807 -9223372036854775808 00", "05a6a6a4a37f5f3ff8d936c2bb9e1dbd"},
		{impl.Say{Kind: -1, From: -1, To: -1, Root: "-"}, "-1 -1 -1 2d", "857deacfb7898023cfd217f129dcb151"},
	} {
		checkReadSay(t, c.text, c.say)
		line := c.sum + " " + c.text + "\n"
		if got := impl.ShelfLine(c.say); got != line {
			t.Fatalf("ShelfLine(%s) = %q, want %q", brief(c.say), got, line)
		}
		checkRead(t, line, []impl.Say{c.say}, len(line))
	}
}

// A line is the sum of the text, a blank, the text and a newline, by the program's own words.
func TestShelfLineIsSumAndText(t *testing.T) {
	for _, s := range someSayings() {
		text := impl.SayText(s)
		if got := impl.ShelfLine(s); got != impl.HexText(impl.Sum(text))+" "+text+"\n" {
			t.Fatalf("ShelfLine(%s) = %q", brief(s), got)
		}
		if s.Kind == impl.SayPiece && !strings.HasSuffix(text, " "+impl.PieceText(s.Piece)) {
			t.Fatalf("SayText(%s) = %q", brief(s), text)
		}
		checkReadSay(t, text, s)
	}
}

func TestShelfTextsOfWhatIsBrought(t *testing.T) {
	d := drawer(160)
	eachNode(func(id int, f int) {
		for _, data := range []string{"", "a", d.text(40), d.text(2000)} {
			s := longSays(data, f)[id]
			checkReadSay(t, longSayText(s), s)
			for _, kind := range []int{impl.SayEcho, impl.SayReady} {
				for from := -1; from <= 3*f; from++ {
					s := impl.Say{Kind: kind, From: from, To: id, Root: s.Root}
					checkReadSay(t, longSayText(s), s)
				}
			}
		}
	})
}

func TestShelfTextsOfEndNumbers(t *testing.T) {
	piece := longSays("ends", 1)[1].Piece
	for _, a := range endNumbers {
		for _, b := range endNumbers {
			for _, s := range []impl.Say{
				{Kind: 0, From: a, To: b, Root: "r", Piece: piece},
				{Kind: 1, From: a, To: b, Root: "r"},
				{Kind: 2, From: a, To: b},
				{Kind: a, From: b, To: a, Root: "r"},
				{Kind: a, From: 0, To: b},
			} {
				if s.Kind == 0 {
					s.Piece = piece
				}
				checkReadSay(t, longSayText(s), s)
			}
		}
	}
}

func TestShelfTextsOfEachRoot(t *testing.T) {
	piece := longSays("roots", 1)[1].Piece
	for size := range 40 {
		for _, kind := range []int{-5, 0, 1, 2, 3} {
			s := impl.Say{Kind: kind, From: size, To: 1, Root: allBytes()[200:][:size]}
			if kind == 0 {
				s.Piece = piece
			}
			checkReadSay(t, longSayText(s), s)
		}
	}
	for _, root := range []string{allBytes(), strings.Repeat("\xab", 5000), "-", " ", "\n", "1 0 0 -", "\x00"} {
		s := impl.Say{Kind: 1, From: 2, To: 3, Root: root}
		checkReadSay(t, longSayText(s), s)
		s.Kind, s.Piece = 0, piece
		checkReadSay(t, longSayText(s), s)
	}
}

// A piece is told only of what carries one; what carries none is read back without.
func TestShelfTextLeavesOutAPiece(t *testing.T) {
	brought := longSays("left out", 1)
	for _, kind := range endNumbers {
		for _, p := range []impl.Piece{{}, brought[1].Piece, {Root: "r", K: -1, Body: "b", Proof: []string{"", "p"}}} {
			s := impl.Say{Kind: kind, From: 3, To: 1, Root: brought[0].Root, Piece: p}
			text := fmt.Sprintf("%d 3 1 %x", kind, brought[0].Root)
			if kind == 0 {
				text += " " + longAnyPieceText(p)
			}
			checkSayText(t, s, text)
			if isWritten(s) {
				checkReadSay(t, text, asRead(s))
			} else {
				checkNoSay(t, text)
			}
		}
	}
	checkSayText(t, impl.Say{}, "0 0 0 - - 0 0 0 - 0")
	checkNoSay(t, "0 0 0 - - 0 0 0 - 0")
}

func TestShelfReadsNoPieceThatDoesNotCheck(t *testing.T) {
	refused := 0
	eachNode(func(id int, f int) {
		for _, p := range notItsPieces(id, f, "no piece") {
			for _, root := range []string{"", p.Root, "root"} {
				s := impl.Say{Kind: 0, From: -1, To: id, Root: root, Piece: p}
				checkSayText(t, s, longSayText(s))
				if longPieceOk(p) {
					checkReadSay(t, longSayText(s), s) // whose piece it is is no matter of its text
				} else {
					checkNoSay(t, longSayText(s))
					refused++
				}
			}
		}
	})
	if refused < 200 {
		t.Errorf("only %d were refused: the test has grown weak", refused)
	}
}

// A piece stands behind what carries one, and behind nothing else.
func TestShelfReadsPiecesWhereTheyBelong(t *testing.T) {
	brought := longSays("where they belong", 2)
	root, text := fmt.Sprintf("%x", brought[0].Root), longPieceText(brought[3].Piece)
	for _, kind := range endNumbers {
		with := strconv.Itoa(kind) + " -1 3 " + root + " " + text
		without := strconv.Itoa(kind) + " -1 3 " + root
		if kind == 0 {
			checkReadSay(t, with, impl.Say{From: -1, To: 3, Root: brought[0].Root, Piece: brought[3].Piece})
			checkNoSay(t, without)
			continue
		}
		checkNoSay(t, with)
		checkReadSay(t, without, impl.Say{Kind: kind, From: -1, To: 3, Root: brought[0].Root})
	}
	for _, tail := range []string{"", " ", "  ", " -", " 0", " - 0 0 0 - 0", " " + root, " " + text + " ", " " + text + " " + text, "  " + text, " " + text + "\n", text, "\n" + text} {
		checkNoSay(t, "0 -1 3 "+root+tail)
		if tail != "" && tail != text {
			checkNoSay(t, "1 -1 3 "+root+tail)
			checkNoSay(t, "7 -1 3 "+root+tail)
		}
	}
}

func TestShelfReadsNoOtherText(t *testing.T) {
	root := strings.Repeat("ab", 16)
	for _, text := range []string{
		"", " ", "  ", "   ", "    ", "-", "\n", "\x00", "1", "1 0", "1 0 2", "1 0 2 ", "1  0 2 -", "1 0  2 -", "1 0 2  -", " 1 0 2 -", "1 0 2 - ", "1 0 2 --", "1 0 2 - -",
		"1 00 2 -", "01 0 2 -", "1 0 02 -", "1 -0 2 -", "-0 0 2 -", "1 0 -0 -", "+1 0 2 -", "1 +0 2 -", "1 0 +2 -", "1 0 2 +", "1 -01 2 -", "1 - 2 -", "1 0 - -", "- 0 2 -",
		"1 0 2 0", "1 0 2 000", "1 0 2 AB", "1 0 2 aB", "1 0 2 Ab", "1 0 2 " + strings.ToUpper(root), "1 0 2 " + root + "a", "1 0 2 " + root + "G0", "1 0 2 0x" + root, "1 0 2 -" + root, "1 0 2 " + root + "-",
		"1.0 0 2 -", "1e0 0 2 -", "0x1 0 2 -", "1_0 0 2 -", "one 0 2 -", "1,0,2,-", "1\t0\t2\t-", "1\n0\n2\n-", "1 0 2 -\n", "\n1 0 2 -", "1 0 2 -\r", "1 0 2 -\x00", "1 0 2\u00a0-", "٣ 0 2 -", "１ 0 2 -",
		"9223372036854775808 0 2 -", "1 9223372036854775808 2 -", "1 0 9223372036854775808 -", "-9223372036854775809 0 2 -", "1 -9223372036854775809 2 -", "1 0 -9223372036854775809 -",
		"18446744073709551617 0 2 -", "1 18446744073709551616 2 -", "1 0 99999999999999999999999999 -", "1 " + strings.Repeat("0", 5000) + " 2 -", "1 0 2 - 1 0 2 -", "0 0 2 -", "0 0 2 " + root,
		lineOf("1 0 2 -"), strings.TrimSuffix(lineOf("1 0 2 -"), "\n"), strings.Repeat(" ", 5000), strings.Repeat("1 ", 5000), strings.Repeat("ab", 5000), "00 0 2 - " + longPieceText(longSays("x", 1)[0].Piece), "-0 0 2 - " + longPieceText(longSays("x", 1)[0].Piece), "+0 0 2 - " + longPieceText(longSays("x", 1)[0].Piece),
	} {
		checkNoSay(t, text)
		if checkAnySay(t, text) {
			t.Fatalf("%q is reckoned to be a saying's text", text)
		}
	}
	checkReadSay(t, "1 0 2 -", impl.Say{Kind: 1, To: 2})
	checkReadSay(t, "1 0 2 "+root, impl.Say{Kind: 1, To: 2, Root: strings.Repeat("\xab", 16)})
}

// Each byte of a text changed, gone or more: what is no saying's text is refused, and what is another's is that one.
func TestShelfReadsEachByteChanged(t *testing.T) {
	read, refused := 0, 0
	count := func(ok bool) {
		if ok {
			read++
		} else {
			refused++
		}
	}
	for _, s := range someSayings() {
		text := longSayText(s)
		for place := range text {
			count(checkAnySay(t, text[:place]))
			count(checkAnySay(t, text[place:]))
			count(checkAnySay(t, text[:place]+text[place+1:]))
			for _, b := range []byte("0129abfgABF+- _.x\x00\n\xff") {
				count(checkAnySay(t, text[:place]+string([]byte{b})+text[place+1:]))
				count(checkAnySay(t, text[:place]+string([]byte{b})+text[place:]))
			}
		}
	}
	if read < 1000 || refused < 10000 {
		t.Errorf("%d read, %d refused: the test has grown weak", read, refused)
	}
}

func TestShelfReadsOtherParts(t *testing.T) {
	for _, s := range someSayings()[:8] {
		parts := strings.Split(longSayText(s), " ")
		for i, part := range parts {
			checkAnySay(t, strings.Join(slices.Delete(slices.Clone(parts), i, i+1), " "))
			checkAnySay(t, strings.Join(parts[:i], " "))
			checkNoSay(t, strings.Join(parts[:i], " ")+" ")
			for _, other := range []string{"", "-", " ", "0", "00", "x", "0x" + part, part + " ", " " + part, part + "\t", part + "\n", "0" + part, "00" + part, "+" + part, "-" + part, part + "0", part + "00", part + "_0", part + "g", strings.ToUpper(part), "9223372036854775807", "9223372036854775808", "-9223372036854775808", "-9223372036854775809"} {
				checkAnySay(t, strings.Join(withTextAt(parts, i, other), " "))
			}
		}
	}
}

// What is read comes back as the text that it was read of, and what is told comes back from its text.
func TestShelfAnySaying(t *testing.T) {
	d := drawer(161)
	read, refused := 0, 0
	for round := range 3000 {
		f := 1 + round%3
		texts := d.brought(f, 2)
		s := d.saying(impl.Node{Id: d.below(3*f + 1), F: f}, texts)
		if d.below(8) == 0 {
			s.Kind, s.From, s.To = d.below(5)-2, int(d.long()), int(d.long())
		}
		if d.below(8) == 0 {
			s.Root = d.text(d.below(3))
		}
		text := longSayText(s)
		checkSayText(t, s, text)
		if isWritten(s) {
			checkReadSay(t, text, asRead(s))
			read++
		} else {
			checkNoSay(t, text)
			refused++
		}
		checkAnySay(t, changed(text, d.below(len(text)), 1+d.below(255)))
	}
	if read < 1000 || refused < 30 {
		t.Errorf("%d read, %d refused: the test has grown weak", read, refused)
	}
}

func TestShelfReadTellsAllLines(t *testing.T) {
	checkRead(t, "", nil, 0)
	all := someSayings()
	for from := range all {
		for to := from; to <= len(all); to++ {
			text := linesOf(all[from:to])
			checkRead(t, text, all[from:to], len(text))
		}
	}
	twice := slices.Concat(all, all[:1], all[:1], all)
	checkRead(t, linesOf(twice), twice, len(linesOf(twice)))
	d := drawer(162)
	for range 50 {
		mixed := []impl.Say{}
		for _, place := range d.order(len(all)) {
			mixed = append(mixed, all[place])
		}
		text := linesOf(mixed)
		checkRead(t, text, mixed, len(text))
	}
}

// Cut off anywhere: the lines that are whole are told, and nothing of the one that is not.
func TestShelfReadCutOff(t *testing.T) {
	all := someSayings()[:8]
	text := linesOf(all)
	whole, end := 0, 0
	for size := range len(text) + 1 {
		if whole < len(all) && size == end+len(longLine(all[whole])) {
			whole, end = whole+1, size
		}
		checkRead(t, text[:size], all[:whole], end)
	}
	if whole != len(all) {
		t.Fatalf("%d lines were told of the whole text", whole)
	}
}

// A good line behind one that is cut off, or has a byte changed, gone or more, counts for nothing.
func TestShelfReadSpoiltLine(t *testing.T) {
	good := echoOf(1, 2, longSays("ab", 1)[0].Root)
	ahead, behind := longLine(good), longLine(good)+longLine(someSayings()[0])
	for _, s := range someSayings()[:7] {
		line := longLine(s)
		checkRead(t, ahead+line+behind, []impl.Say{good, s, good, someSayings()[0]}, len(ahead+line+behind))
		for place := range line {
			spoilt := []string{line[:place] + line[place+1:], line[:place] + " " + line[place:]}
			if place > 0 {
				spoilt = append(spoilt, line[:place], line[place:])
			}
			if place < len(line)-1 {
				spoilt = append(spoilt, line[:place]+"\n", line[:place]+"\n"+line[place:])
			}
			for _, by := range []int{1, 2, 32, 128, 255} {
				spoilt = append(spoilt, changed(line, place, by))
			}
			for _, bad := range spoilt {
				checkRead(t, bad+behind, nil, 0)
				checkRead(t, ahead+bad+behind, []impl.Say{good}, len(ahead))
			}
		}
	}
}

func TestShelfReadOtherLines(t *testing.T) {
	s, other := echoOf(1, 2, "root"), readyOf(1, 2, "root")
	text, good := longSayText(s), longLine(s)
	sum := fmt.Sprintf("%x", impl.Sum(text))
	lie := otherSay(longSays("a lie", 1)[1], func(s *impl.Say) { s.Piece.Body = "lie" })
	for _, bad := range []string{
		"\n", " \n", "\n" + good, " " + good, "x", "\x00", sum, sum + "\n", sum + " ", sum + " \n", text + "\n", " " + text + "\n", sum + text + "\n", sum + "  " + text + "\n", sum + " " + text + " \n", sum + " " + text + "\r\n",
		sum + "\t" + text + "\n", sum + "\n" + text + "\n", strings.ToUpper(sum) + " " + text + "\n", sum[1:] + " " + text + "\n", "0" + sum + " " + text + "\n", sum + "0 " + text + "\n", sum + sum + " " + text + "\n", impl.Sum(text) + " " + text + "\n", "- " + text + "\n",
		fmt.Sprintf("%x %s\n", impl.Sum(longSayText(other)), text), sum + " " + longSayText(other) + "\n", fmt.Sprintf("%x %s\n", impl.Sum(text+"\n"), text), fmt.Sprintf("%x %s\n", impl.Sum(" "+text), text), fmt.Sprintf("%x %s\n", impl.Leaf(text), text), sum + " " + sum + " " + text + "\n",
		lineOf(""), lineOf(" "), lineOf("1 0 2"), lineOf("1 00 2 -"), lineOf("1 0 2 -0"), lineOf("1 0 2 AB"), lineOf("0 0 2 -"), lineOf("1 0 2 - x"), lineOf(text + " "), lineOf(" " + text), lineOf("+" + text), lineOf(text + "\n" + text), lineOf(longLine(s)), longLine(lie), longLine(impl.Say{}),
		lineOf("1 -1 2 - " + longPieceText(longSays("x", 1)[0].Piece)), strings.Repeat("\n", 1000), strings.Repeat(" ", 1000), strings.Repeat("0", 1000) + "\n",
	} {
		checkRead(t, bad, nil, 0)
		checkRead(t, bad+good, nil, 0)
		checkRead(t, good+bad, []impl.Say{s}, len(good))
		checkRead(t, good+good+bad+good, []impl.Say{s, s}, 2*len(good))
	}
}

// sized is a saying whose line has just that many bytes, 42 or more.
func sized(size int) impl.Say {
	from := 10 * (size % 2) // a number of two digits makes it odd
	return echoOf(from, 0, strings.Repeat("\xab", (size-40)/2))
}

// filledLines are lines of just that many bytes, and what they tell.
func filledLines(t *testing.T, size int) (string, []impl.Say) {
	t.Helper()
	says, left := []impl.Say{}, size
	for left > 3000 {
		says, left = append(says, sized(1901)), left-1901
	}
	says = append(says, sized(left))
	text := linesOf(says)
	if len(text) != size {
		t.Fatalf("the lines have %d bytes, want %d", len(text), size)
	}
	return text, says
}

func TestShelfReadUpToTheLimit(t *testing.T) {
	for _, size := range []int{199998, 199999, 200000} {
		text, says := filledLines(t, size)
		checkRead(t, text, says, size)
		for _, more := range []string{"x", "\n", "xy", longLine(sized(42)), strings.Repeat("x", 1000)} {
			if size+len(more) > 200000 {
				checkRead(t, text+more, nil, 0)
			} else {
				checkRead(t, text+more, says, size)
			}
		}
	}
	for _, size := range []int{200001, 200002, 200042, 400000} {
		text, _ := filledLines(t, size)
		checkRead(t, text, nil, 0)
	}
	one := sized(200000)
	checkRead(t, longLine(one), []impl.Say{one}, 200000)
	checkRead(t, longLine(sized(200001)), nil, 0)
	for _, filler := range []string{"x", "\n", " ", "\x00", "0", "1 "} {
		checkRead(t, strings.Repeat(filler, 200000/len(filler)), nil, 0)
		checkRead(t, strings.Repeat(filler, 200000/len(filler)+1), nil, 0)
	}
}

// Lines as short as they can be: as many as there is room for.
func TestShelfReadOfManyLines(t *testing.T) {
	short := impl.Say{Kind: 1}
	line := longLine(short)
	count := 200000 / len(line)
	text := strings.Repeat(line, count)
	checkRead(t, text, slices.Repeat([]impl.Say{short}, count), len(text))
	checkRead(t, text+line, nil, 0)
}

// emptyShelf is a node's shelf of which nothing was written down.
func emptyShelf(t *testing.T, id int, f int) impl.Shelf {
	t.Helper()
	s := impl.Shelf{Node: started(t, id, f)}
	checkShelf(t, s, true, "an empty shelf")
	return s
}

// heardShelf is a shelf that heard all of it, none of it safe.
func heardShelf(t *testing.T, id int, f int, says []impl.Say) impl.Shelf {
	t.Helper()
	s := emptyShelf(t, id, f)
	for _, x := range says {
		s, _ = checkHears(t, s, x)
	}
	checkShelf(t, s, true, "a shelf that heard")
	return s
}

// heardOf is what a node may hear of two texts: its piece, echoes and readies, some of it twice, to another or of no use.
func heardOf(id int, f int) []impl.Say {
	first, second := longSays("first", f), longSays("second", f)
	root := first[0].Root
	says := []impl.Say{first[id], first[id]}
	for from := range 3*f + 1 {
		says = append(says, echoOf(from, id, root))
	}
	says = append(says, second[(id+1)%(3*f+1)], echoOf(-1, id, second[0].Root), second[id], impl.Say{Kind: 7, To: id, Root: root}, impl.Say{Kind: 1, To: id})
	for from := range 2*f + 1 {
		says = append(says, readyOf(from, id, root), readyOf(3*f-from, id, second[0].Root))
	}
	return says
}

func TestShelfHearsAsTheNodeDoes(t *testing.T) {
	eachNode(func(id int, f int) {
		s, text, spoke := emptyShelf(t, id, f), "", 0
		for i, x := range heardOf(id, f) {
			node, wantSaid := impl.NodeHear(s.Node, x)
			after, said := checkHears(t, s, x)
			text += impl.ShelfLine(x)
			if after.Text != text || after.Safe != s.Safe || !sameNode(after.Node, node) || !slices.EqualFunc(said, wantSaid, sameSay) {
				t.Fatalf("saying %d, %s: %s, %s", i, brief(x), briefShelf(after), brief(said))
			}
			checkShelf(t, after, true, "heard")
			checkRead(t, after.Text, heardOf(id, f)[:i+1], len(text))
			s, spoke = after, spoke+min(len(said), 1)
			if i%4 == 2 {
				s = checkSync(t, s)
				checkShelf(t, s, true, "all safe")
			}
		}
		if slot, ok := impl.SlotOf(s.Node, longSays("first", f)[0].Root); !ok || !slot.Done || spoke != 4 {
			t.Fatalf("behind all the slot is %s, and %d sayings made it speak", brief(slot), spoke)
		}
	})
}

// A saying is written down though the node makes nothing of it.
func TestShelfHearsWhatTheNodeDoesNotMind(t *testing.T) {
	eachNode(func(id int, f int) {
		brought := longSays("not minded", f)
		root := brought[0].Root
		s := heardShelf(t, id, f, heardOf(id, f)[:3])
		for _, x := range []impl.Say{
			brought[(id+1)%(3*f+1)], echoOf(0, id+1, root), readyOf(0, id-1, root), echoOf(3*f+1, id, root), readyOf(-2, id, root), echoOf(math.MinInt, id, root), echoOf(0, math.MaxInt, root),
			{Kind: 3, From: 0, To: id, Root: root}, {Kind: -1, From: 0, To: id, Root: root}, {Kind: math.MinInt, To: id, Root: root}, {Kind: math.MaxInt, To: id, Root: root},
			echoOf(0, id, ""), readyOf(0, id, root[:15]), echoOf(0, id, root+"\x00"), {Kind: 0, From: -1, To: id, Root: "", Piece: brought[id].Piece}, {Kind: 0, From: -9, To: id, Root: root, Piece: brought[id].Piece},
		} {
			after, said := checkHears(t, s, x)
			if len(said) != 0 || !sameNode(after.Node, s.Node) || after.Text != s.Text+impl.ShelfLine(x) {
				t.Fatalf("ShelfHear of %s = %s, %s", brief(x), briefShelf(after), brief(said))
			}
			checkShelf(t, after, true, "not minded")
			checkShelf(t, checkCrash(t, after, math.MaxInt), true, "not minded, behind a crash")
		}
	})
}

// A piece beside what carries none is not written down, and nothing is made of it.
func TestShelfHearsAnEchoWithAPiece(t *testing.T) {
	brought := longSays("beside", 1)
	root := brought[0].Root
	for _, p := range []impl.Piece{brought[2].Piece, brought[1].Piece, {Body: "no piece"}} {
		for _, kind := range []int{1, 2, 7, -1} {
			x := impl.Say{Kind: kind, From: 0, To: 2, Root: root, Piece: p}
			s, said := checkHears(t, emptyShelf(t, 2, 1), x)
			bare, bareSaid := checkHears(t, emptyShelf(t, 2, 1), asRead(x))
			if !sameShelf(s, bare) || !slices.EqualFunc(said, bareSaid, sameSay) {
				t.Fatalf("ShelfHear of %s = %s, %s, without the piece %s, %s", brief(x), briefShelf(s), brief(said), briefShelf(bare), brief(bareSaid))
			}
			checkShelf(t, s, true, "with a piece beside")
		}
	}
}

func TestShelfHearRefusesWhatCannotBeRead(t *testing.T) {
	eachNode(func(id int, f int) {
		root := longSays("no piece", f)[0].Root
		refused := 0
		for _, s := range []impl.Shelf{emptyShelf(t, id, f), heardShelf(t, id, f, heardOf(id, f)[:4]), {}, {Node: impl.Node{Id: id, F: 9}, Text: "no line", Safe: -3}} {
			for _, p := range notItsPieces(id, f, "no piece") {
				x := impl.Say{Kind: impl.SayPiece, From: -1, To: id, Root: root, Piece: p}
				if _, ok := impl.ReadSay(impl.SayText(x)); ok {
					checkHears(t, s, x)
					continue
				}
				refused++
				checkHearsNot(t, s, x, "no piece")
				checkHearsNot(t, s, otherSay(x, func(x *impl.Say) { x.To, x.Root = -7, "" }), "no piece, to nobody")
			}
			checkHearsNot(t, s, impl.Say{}, "the zero value")
		}
		if refused < 50 {
			t.Fatalf("only %d were refused: the test has grown weak", refused)
		}
	})
}

// The document wants no right shelf of ShelfHear: whatever Text tells, whatever is safe, and whatever the node is.
func TestShelfHearsAtAnyShelf(t *testing.T) {
	brought := longSays("any shelf", 1)
	root := brought[0].Root
	right := heardShelf(t, 2, 1, heardOf(2, 1)[:5])
	for _, x := range []impl.Say{brought[2], brought[1], echoOf(0, 2, root), readyOf(3, 2, root), {Kind: 7}} {
		for _, safe := range append(slices.Clone(endNumbers), len(right.Text)-1, len(right.Text), len(right.Text)+1) {
			after, _ := checkHears(t, otherShelf(right, func(s *impl.Shelf) { s.Safe = safe }), x)
			if after.Safe != safe {
				t.Fatalf("%d were safe, and %d are when more was heard", safe, after.Safe)
			}
		}
		for _, text := range []string{"", "no line", "\n", "no line\n", right.Text + "x", right.Text[1:], strings.Repeat("\x00", 1000)} {
			checkHears(t, otherShelf(right, func(s *impl.Shelf) { s.Text = text }), x)
		}
		for _, change := range []func(n *impl.Node){
			func(n *impl.Node) { n.Id = -1 },
			func(n *impl.Node) { n.Id = 1 },
			func(n *impl.Node) { n.F = 0 },
			func(n *impl.Node) { n.F = 2 },
			func(n *impl.Node) { n.Slots[0].Has = false },
			func(n *impl.Node) { n.Slots[0].Echoes = []int{3, 1} },
			func(n *impl.Node) { n.Slots = append(n.Slots, n.Slots[0]) },
			func(n *impl.Node) { *n = impl.Node{} },
		} {
			wrong := otherShelf(right, func(s *impl.Shelf) { change(&s.Node) })
			after, said := checkHears(t, wrong, x)
			if impl.NodeOk(wrong.Node) || len(said) != 0 || !sameNode(after.Node, wrong.Node) || after.Text != right.Text+longLine(x) {
				t.Fatalf("a node that is not right: %s, %s", briefShelf(after), brief(said))
			}
		}
	}
	d := drawer(163)
	for round := range 400 {
		f := 1 + round%3
		texts := d.brought(f, 3)
		s := impl.Shelf{Node: d.node(f, texts), Text: d.text(d.below(50)), Safe: d.below(60) - 5}
		checkHears(t, s, d.saying(impl.Node{Id: d.below(3*f + 1), F: f}, texts))
	}
}

func TestShelfHearsUpToTheLimit(t *testing.T) {
	brought := longSays("the last line", 1)
	for _, x := range []impl.Say{brought[2], echoOf(0, 2, brought[0].Root), readyOf(0, 2, brought[0].Root), {Kind: 1}, {Kind: 9, From: math.MinInt}} {
		line := longLine(x)
		for room := -3; room <= 3; room++ {
			size := 200000 - len(line) - room
			lines, says := filledLines(t, size)
			right := impl.Shelf{Node: longAnew(impl.Node{Id: 2, F: 1}, says), Text: lines, Safe: size}
			for _, s := range []impl.Shelf{right, otherShelf(right, func(s *impl.Shelf) { s.Text, s.Safe = strings.Repeat("x", size), 0 })} {
				if room < 0 {
					checkHearsNot(t, s, x, "no room")
					continue
				}
				after, _ := checkHears(t, s, x)
				if len(after.Text) != 200000-room || after.Text != s.Text+line {
					t.Fatalf("with room for %d more: %s", room, briefShelf(after))
				}
				if room == 0 {
					checkHearsNot(t, after, impl.Say{Kind: 1}, "a full shelf")
				}
			}
			if room == 0 {
				after, _ := impl.ShelfHear(right, x)
				checkShelf(t, after, true, "a full shelf")
				checkCrash(t, after, 0)
			}
		}
		for _, size := range []int{199999, 200000, 200001, 400000} {
			checkHearsNot(t, impl.Shelf{Node: started(t, 2, 1), Text: strings.Repeat("x", size)}, x, "a text that is full")
		}
	}
	one := sized(200000)
	s, _ := checkHears(t, emptyShelf(t, 0, 1), one)
	if s.Text != longLine(one) {
		t.Fatalf("a line as long as all may be: %s", briefShelf(s))
	}
	checkHearsNot(t, emptyShelf(t, 0, 1), sized(200001), "a line that is too long by itself")
	checkHearsNot(t, impl.Shelf{Node: started(t, 0, 1), Text: "x"}, one, "one byte too many")
}

func TestShelfSyncsAnyShelf(t *testing.T) {
	right := heardShelf(t, 1, 1, heardOf(1, 1)[:6])
	for _, safe := range append(slices.Clone(endNumbers), len(right.Text)-1, len(right.Text), len(right.Text)+1) {
		checkSync(t, otherShelf(right, func(s *impl.Shelf) { s.Safe = safe }))
		checkSync(t, impl.Shelf{Safe: safe})
	}
	for _, text := range []string{"", "x", "\n", right.Text + "x", strings.Repeat("x", 200000), strings.Repeat("x", 200001)} {
		checkSync(t, otherShelf(right, func(s *impl.Shelf) { s.Text = text }))
		checkSync(t, impl.Shelf{Node: impl.Node{Id: -1, F: 7, Slots: []impl.Slot{{Root: "r", Echoes: []int{5, 5}}}}, Text: text, Safe: 3})
	}
	again := checkSync(t, checkSync(t, right))
	checkShelf(t, again, true, "safe twice")
}

// checkFoundAgain wants of a crash all that was safe, and maybe some more, in order.
func checkFoundAgain(t *testing.T, s impl.Shelf, keep int, heard []impl.Say, safe int) impl.Shelf {
	t.Helper()
	after := checkCrash(t, s, keep)
	found, end := impl.ShelfRead(after.Text)
	if end != len(after.Text) || after.Safe != end || len(found) < safe || len(found) > len(heard) || !slices.EqualFunc(found, heard[:len(found)], sameSay) {
		t.Fatalf("with %d kept, of %d sayings, %d of them safe, %d are found again: %s", keep, len(heard), safe, len(found), brief(found))
	}
	checkShelf(t, after, true, "behind a crash")
	return after
}

// With each number of bytes kept, from below none to more than there are, and each number of lines that were safe.
func TestShelfCrashKeepsWhatWasSafe(t *testing.T) {
	for _, c := range [][2]int{{2, 1}, {0, 2}} {
		id, f := c[0], c[1]
		heard := heardOf(id, f)[1:7]
		text := linesOf(heard)
		for safe := range len(heard) + 1 {
			s := emptyShelf(t, id, f)
			for i, x := range heard {
				if i == safe {
					s = checkSync(t, s)
				}
				s, _ = checkHears(t, s, x)
			}
			if safe == len(heard) {
				s = checkSync(t, s)
			}
			size := len(linesOf(heard[:safe]))
			if s.Safe != size || s.Text != text {
				t.Fatalf("%d lines are to be safe: %s", safe, briefShelf(s))
			}
			for keep := -2; keep <= len(text)-size+2; keep++ {
				checkFoundAgain(t, s, keep, heard, safe)
			}
			for _, keep := range []int{math.MinInt, math.MinInt + 1, -(1 << 32), -len(text)} {
				if after := checkFoundAgain(t, s, keep, heard, safe); len(after.Text) != size {
					t.Fatalf("with %d kept: %s", keep, briefShelf(after))
				}
			}
			for _, keep := range []int{math.MaxInt, math.MaxInt - 1, math.MaxInt - size, 1 << 32, len(text)} {
				if after := checkFoundAgain(t, s, keep, heard, safe); after.Text != text || !sameNode(after.Node, s.Node) {
					t.Fatalf("with %d kept: %s", keep, briefShelf(after))
				}
			}
		}
	}
}

// The node is what hearing just what is left makes, whatever it was.
func TestShelfCrashMakesTheNodeAnew(t *testing.T) {
	eachNode(func(id int, f int) {
		heard := heardOf(id, f)
		s := heardShelf(t, id, f, heard)
		left := 0
		for i, x := range heard {
			want := heardShelf(t, id, f, heard[:i])
			for _, short := range []int{0, 1, len(longLine(x)) - 1} {
				after := checkFoundAgain(t, s, left+short, heard, 0)
				if !sameNode(after.Node, want.Node) || after.Text != want.Text {
					t.Fatalf("%d bytes of the next line kept: %s, want %s", short, briefShelf(after), briefShelf(want))
				}
			}
			left += len(longLine(x))
		}
		for _, node := range []impl.Node{{Id: id, F: f}, rightNode(t, id, f), {Id: id, F: f, Slots: []impl.Slot{{Root: "wrong", Has: true, Readies: []int{9, 9}}}}} {
			wrong := otherShelf(s, func(s *impl.Shelf) { s.Node = node })
			if after := checkCrash(t, wrong, math.MaxInt); !sameNode(after.Node, s.Node) {
				t.Fatalf("a node that was another is not made anew: %s", briefShelf(after))
			}
			if after := checkCrash(t, wrong, 0); len(after.Node.Slots) != 0 || after.Text != "" {
				t.Fatalf("a node that heard nothing: %s", briefShelf(after))
			}
		}
	})
}

// Safe below 0 is no byte, and beyond Text it is all of it.
func TestShelfCrashWithAnySafe(t *testing.T) {
	heard := heardOf(2, 1)[:4]
	s := heardShelf(t, 2, 1, heard)
	first, all := len(longLine(heard[0])), len(s.Text)
	for _, safe := range append(slices.Clone(endNumbers), first-1, first, first+1, all-1, all, all+1, 2*all) {
		for _, keep := range append(slices.Clone(endNumbers), first-1, first, first+1, all-1, all, all+1, all-first, -first) {
			checkFoundAgain(t, otherShelf(s, func(s *impl.Shelf) { s.Safe = safe }), keep, heard, 0)
		}
	}
	for _, c := range []struct {
		safe, keep, want int
	}{
		{0, 0, 0}, {0, first - 1, 0}, {0, first, first}, {-1, first, first}, {-first, first, first}, {math.MinInt, first, first}, {math.MinInt, 0, 0}, {math.MinInt, math.MaxInt, all}, {-1, math.MaxInt, all},
		{first, 0, first}, {first, -first, first}, {first, math.MinInt, first}, {first - 1, 0, 0}, {first - 1, 1, first}, {1, first - 1, first}, {1, first - 2, 0}, {first + 1, -1, first}, {first + 1, 0, first}, {first, math.MaxInt, all},
		{all, 0, all}, {all, -1, all}, {all + 1, 0, all}, {all + 1, -1, all}, {all, math.MinInt, all}, {math.MaxInt, 0, all}, {math.MaxInt, math.MaxInt, all}, {math.MaxInt, math.MinInt, all}, {all - 1, 0, len(linesOf(heard[:3]))},
	} {
		after := impl.ShelfCrash(otherShelf(s, func(s *impl.Shelf) { s.Safe = c.safe }), c.keep)
		if after.Text != s.Text[:c.want] || after.Safe != c.want {
			t.Fatalf("Safe %d, %d kept: %s, want %d bytes", c.safe, c.keep, briefShelf(after), c.want)
		}
		empty := impl.ShelfCrash(impl.Shelf{Node: s.Node, Safe: c.safe}, c.keep)
		if !sameShelf(empty, impl.Shelf{Node: impl.Node{Id: 2, F: 1}}) {
			t.Fatalf("Safe %d, %d kept of no text: %s", c.safe, c.keep, briefShelf(empty))
		}
	}
}

// What does not read is not kept, though it was safe, nor what stands behind it.
func TestShelfCrashOfSpoiltText(t *testing.T) {
	heard := heardOf(1, 1)[:4]
	lines := []string{}
	for _, x := range heard {
		lines = append(lines, longLine(x))
	}
	text := strings.Join(lines, "")
	for spoilt := range lines {
		good := strings.Join(lines[:spoilt], "")
		for place := range lines[spoilt] {
			s := impl.Shelf{Node: started(t, 1, 1), Text: changed(text, len(good)+place, 1), Safe: len(text)}
			for _, safe := range []int{0, len(good), len(text)} {
				s.Safe = safe
				after := checkCrash(t, s, math.MaxInt)
				if after.Text != good || after.Safe != len(good) {
					t.Fatalf("line %d spoilt at %d: %s", spoilt, place, briefShelf(after))
				}
			}
		}
	}
	for _, tail := range []string{"x", "\n", lines[0][:20], lines[0][:len(lines[0])-1], "\n" + lines[0], longLine(impl.Say{})} {
		after := checkCrash(t, impl.Shelf{Node: started(t, 1, 1), Text: text + tail, Safe: len(text + tail)}, 5)
		if after.Text != text || !sameNode(after.Node, heardShelf(t, 1, 1, heard).Node) {
			t.Fatalf("with %q behind: %s", tail, briefShelf(after))
		}
	}
}

func TestShelfCrashOfANodeThatCannotBegin(t *testing.T) {
	heard := heardOf(2, 1)[:4]
	text := linesOf(heard)
	slots := rightNode(t, 2, 1).Slots
	for _, f := range append(slices.Clone(noFaults), 1, 2, 3) {
		for _, id := range []int{-1, -2, 3*f + 1, 10, 256, math.MinInt, math.MaxInt, 2} {
			if _, ok := impl.NodeStart(id, f); ok {
				continue
			}
			for _, n := range []impl.Node{{Id: id, F: f}, {Id: id, F: f, Slots: slots}} {
				for _, s := range []impl.Shelf{{Node: n}, {Node: n, Text: text}, {Node: n, Text: text, Safe: len(text)}, {Node: n, Text: text + "x", Safe: math.MaxInt}, {Node: n, Text: "x" + text, Safe: math.MaxInt}} {
					for _, keep := range []int{-1, 0, len(longLine(heard[0])), len(text), math.MaxInt} {
						if after := checkCrash(t, s, keep); !sameNode(after.Node, n) {
							t.Fatalf("a node %d of F %d is not as it is: %s", id, f, briefShelf(after))
						}
					}
					checkShelf(t, s, false, "a node that can't begin")
				}
			}
		}
	}
}

// Only what is left counts against the limit: of a longer text that is read which is not beyond it.
func TestShelfCrashUpToTheLimit(t *testing.T) {
	for _, size := range []int{200000, 200001, 200100, 300000} {
		text, says := filledLines(t, size)
		s := impl.Shelf{Node: started(t, 0, 1), Text: text}
		for _, left := range []int{0, 1000, 1901, 199999, 200000, min(200001, size), size} {
			for _, safe := range []int{0, 1, 1901, left} {
				s.Safe = min(safe, left)
				after := checkCrash(t, s, left-s.Safe)
				whole := min(left/1901, len(says)-1) // the last line is longer
				if left == size {
					whole = len(says)
				}
				if left > 200000 {
					whole = 0
				}
				if after.Text != linesOf(says[:whole]) {
					t.Fatalf("%d of %d bytes left: %s, want %d lines", left, size, briefShelf(after), whole)
				}
			}
		}
	}
}

func TestShelfOkRefuses(t *testing.T) {
	eachNode(func(id int, f int) {
		heard := heardOf(id, f)
		s := heardShelf(t, id, f, heard)
		size := len(s.Text)
		for _, safe := range []int{0, 1, size / 2, size - 1, size} {
			checkShelf(t, otherShelf(s, func(s *impl.Shelf) { s.Safe = safe }), true, "safe")
		}
		for _, safe := range []int{-1, -2, size + 1, 2 * size, 1 << 32, -(1 << 32), math.MinInt, math.MaxInt} {
			checkShelf(t, otherShelf(s, func(s *impl.Shelf) { s.Safe = safe }), false, "safe")
			checkShelf(t, impl.Shelf{Node: impl.Node{Id: id, F: f}, Safe: safe}, false, "safe of no text")
		}
		last := longLine(heard[len(heard)-1])
		for _, text := range []string{"", s.Text[:size-1], s.Text[:size-len(last)], s.Text + last[:40], s.Text + "x", s.Text + "\n", s.Text[1:], changed(s.Text, size/2, 1), s.Text[len(linesOf(heard[:2])):], s.Text + longLine(impl.Say{}), s.Text + longLine(echoOf(f, id, strings.Repeat("\x01", 16)))} {
			checkShelf(t, otherShelf(s, func(s *impl.Shelf) { s.Text = text }), false, "another text")
		}
		for _, more := range []impl.Say{{Kind: 9}, heard[0], heard[2], echoOf(0, id+1, heard[0].Root)} { // these make nothing of the node
			checkShelf(t, otherShelf(s, func(s *impl.Shelf) { s.Text += longLine(more) }), true, "a line of which nothing comes")
		}
		for i := range heard {
			fewer := slices.Delete(slices.Clone(heard), i, i+1)
			want := sameNode(longAnew(s.Node, fewer), s.Node)
			checkShelf(t, otherShelf(s, func(s *impl.Shelf) { s.Text = linesOf(fewer) }), want, "a line fewer")
		}
	})
}

// Each thing of a node that is another than what hearing makes.
func TestShelfOkLooksAtAllOfTheNode(t *testing.T) {
	eachNode(func(id int, f int) {
		s := heardShelf(t, id, f, heardOf(id, f)[:3*f+5])
		second := longSays("second", f)
		if len(s.Node.Slots) != 2 || !s.Node.Slots[0].Has || s.Node.Slots[1].Has {
			t.Fatalf("the slots are to be of two forms: %s", brief(s.Node))
		}
		ok := 0
		for i, change := range []func(n *impl.Node){
			func(n *impl.Node) { n.Id = (n.Id + 1) % (3*n.F + 1) },
			func(n *impl.Node) { n.Id = -1 },
			func(n *impl.Node) { n.F = n.F%3 + 1 },
			func(n *impl.Node) { n.F = 0 },
			func(n *impl.Node) { n.Slots = nil },
			func(n *impl.Node) { n.Slots = n.Slots[:1] },
			func(n *impl.Node) { n.Slots = n.Slots[1:] },
			func(n *impl.Node) { n.Slots[0], n.Slots[1] = n.Slots[1], n.Slots[0] },
			func(n *impl.Node) { n.Slots = append(n.Slots, impl.Slot{Root: strings.Repeat("\x01", 16)}) },
			func(n *impl.Node) { n.Slots = append(n.Slots, n.Slots[0]) },
			func(n *impl.Node) { n.Slots[1].Root = strings.Repeat("\x01", 16) },
			func(n *impl.Node) { n.Slots[0].Echoed = false },
			func(n *impl.Node) { n.Slots[0].Has, n.Slots[0].Echoed = false, false },
			func(n *impl.Node) { n.Slots[0].Has, n.Slots[0].Echoed, n.Slots[0].Piece = false, false, impl.Piece{} },
			func(n *impl.Node) { n.Slots[0].Piece.Body += "x" },
			func(n *impl.Node) { n.Slots[0].Piece.Proof[0] = "x" },
			func(n *impl.Node) { n.Slots[0].Done = true },
			func(n *impl.Node) { n.Slots[0].Readied = false },
			func(n *impl.Node) { n.Slots[1].Readied = true },
			func(n *impl.Node) { n.Slots[1].Readied, n.Slots[1].Done = true, true },
			func(n *impl.Node) { n.Slots[0].Echoes = n.Slots[0].Echoes[1:] },
			func(n *impl.Node) { n.Slots[0].Echoes = n.Slots[0].Echoes[:3*f] },
			func(n *impl.Node) { n.Slots[1].Echoes = []int{0} },
			func(n *impl.Node) { n.Slots[1].Readies = []int{0} },
			func(n *impl.Node) { n.Slots[0].Readies = []int{3 * f} },
			func(n *impl.Node) { n.Slots[1].Piece, n.Slots[1].Has = second[id].Piece, true },
			func(n *impl.Node) { n.Slots[1].Piece = second[(id+1)%(3*f+1)].Piece },
			func(n *impl.Node) { n.Slots[1].Piece.Root = "r" },
			func(n *impl.Node) { n.Slots[1].Piece.K = 1 },
			func(n *impl.Node) { n.Slots[1].Piece.N = 1 },
			func(n *impl.Node) { n.Slots[1].Piece.Index = 1 },
			func(n *impl.Node) { n.Slots[1].Piece.Body = "b" },
			func(n *impl.Node) { n.Slots[1].Piece.Proof = []string{""} },
		} {
			other := otherShelf(s, func(s *impl.Shelf) { change(&s.Node) })
			if sameNode(other.Node, s.Node) {
				t.Fatalf("change %d changes nothing", i)
			}
			if impl.NodeOk(other.Node) {
				ok++
			}
			checkShelf(t, other, false, fmt.Sprintf("change %d", i))
		}
		if ok < 15 {
			t.Fatalf("only %d nodes were right by themselves: the test has grown weak", ok)
		}
	})
}

// An empty list and none are the same value.
func TestShelfOkTakesEmptyListsForNone(t *testing.T) {
	brought := longSays("lists", 1)
	s := heardShelf(t, 2, 1, []impl.Say{brought[2], echoOf(-1, 2, strings.Repeat("\x01", 16))})
	for _, lists := range []struct {
		numbers []int
		texts   []string
	}{{nil, nil}, {[]int{}, []string{}}, {make([]int, 0, 9), make([]string, 0, 9)}} {
		checkShelf(t, otherShelf(s, func(s *impl.Shelf) {
			for i := range s.Node.Slots {
				s.Node.Slots[i].Echoes, s.Node.Slots[i].Readies = lists.numbers, lists.numbers
			}
			s.Node.Slots[1].Piece.Proof = lists.texts
		}), true, "empty lists")
	}
	for _, slots := range [][]impl.Slot{nil, {}, make([]impl.Slot, 0, 5)} {
		checkShelf(t, impl.Shelf{Node: impl.Node{Id: 2, F: 1, Slots: slots}}, true, "no slots")
	}
}

func TestShelfOkUpToTheLimit(t *testing.T) {
	for _, size := range []int{199999, 200000, 200001, 200042, 400000} {
		text, says := filledLines(t, size)
		s := impl.Shelf{Node: longAnew(impl.Node{Id: 0, F: 1}, says), Text: text, Safe: size}
		checkShelf(t, s, size <= 200000, strconv.Itoa(size)+" bytes")
		s.Safe = 0
		checkShelf(t, s, size <= 200000, strconv.Itoa(size)+" bytes, none safe")
	}
	checkShelf(t, impl.Shelf{}, false, "the zero value")
	checkShelf(t, impl.Shelf{Node: impl.Node{F: 1}}, true, "an empty shelf")
}

// A node whose slots are full goes on being found again: what it had no slot for makes nothing again.
func TestShelfOfAFullNode(t *testing.T) {
	s, heard := emptyShelf(t, 3, 1), []impl.Say{}
	for i := range 45 {
		x := longSays("slot "+strconv.Itoa(i), 1)[3]
		if i%3 != 0 {
			x = impl.Say{Kind: i % 3, From: i % 4, To: 3, Root: x.Root}
		}
		heard = append(heard, x)
		s, _ = checkHears(t, s, x)
	}
	if len(s.Node.Slots) != 40 {
		t.Fatalf("the node has %d slots", len(s.Node.Slots))
	}
	checkShelf(t, s, true, "full slots")
	for lines := range heard {
		checkFoundAgain(t, s, len(linesOf(heard[:lines])), heard, 0)
	}
}

// Whatever is heard, made safe and lost: the shelf stays right, and of each crash all that was safe, and maybe some more, is found again, in order.
func TestShelfWhateverHappens(t *testing.T) {
	d := drawer(164)
	crashes, lost, kept := 0, 0, 0
	eachNode(func(id int, f int) {
		for range 4 {
			texts := d.brought(f, 1+d.below(4))
			s, heard, safe := emptyShelf(t, id, f), []impl.Say{}, 0
			for range 40 + d.below(60) {
				switch d.below(8) {
				case 0:
					s, safe = checkSync(t, s), len(heard)
				case 1:
					s = checkFoundAgain(t, s, d.below(len(s.Text)-s.Safe+200)-100, heard, safe)
					found, _ := impl.ShelfRead(s.Text)
					crashes, lost, kept = crashes+1, lost+len(heard)-len(found), kept+len(found)-safe
					heard, safe = heard[:len(found)], len(found)
				default:
					x := d.saying(s.Node, texts)
					s, _ = checkHears(t, s, x)
					if isWritten(x) {
						heard = append(heard, asRead(x))
					}
				}
				checkShelf(t, s, true, "whatever happens")
				checkRead(t, s.Text, heard, len(s.Text))
				if s.Safe != len(linesOf(heard[:safe])) {
					t.Fatalf("%d lines are to be safe: %s", safe, briefShelf(s))
				}
			}
		}
	})
	if crashes < 300 || lost < 100 || kept < 100 {
		t.Errorf("%d crashes, %d sayings lost, %d kept that were not safe: the test has grown weak", crashes, lost, kept)
	}
}

// Any shelf at all, right or not: all answers are those that were reckoned apart.
func TestShelfAnyShelf(t *testing.T) {
	d := drawer(165)
	right, wrong := 0, 0
	for round := range 1500 {
		f := 1 + round%3
		texts := d.brought(f, 3)
		n := impl.Node{Id: d.below(3*f + 1), F: f}
		says := []impl.Say{}
		for range d.below(6) {
			says = append(says, d.saying(n, texts))
		}
		s := impl.Shelf{Node: longAnew(n, says), Text: linesOf(says)}
		s.Safe = d.below(len(s.Text) + 1)
		switch d.below(8) {
		case 0:
			s.Text = s.Text[:d.below(len(s.Text)+1)]
		case 1:
			s.Text += d.text(d.below(40))
		case 2:
			if s.Text != "" {
				s.Text = changed(s.Text, d.below(len(s.Text)), 1+d.below(255))
			}
		case 3:
			s.Node = d.node(f, texts)
		case 4:
			s.Safe = d.below(2*len(s.Text)+20) - len(s.Text) - 10
		}
		ok := longShelfOk(s)
		checkShelf(t, s, ok, "any shelf")
		if ok {
			right++
		} else {
			wrong++
		}
		told, end := longShelfRead(s.Text)
		checkRead(t, s.Text, told, end)
		checkSync(t, s)
		checkHears(t, s, d.saying(n, texts))
		for range 4 {
			after := checkCrash(t, s, d.below(2*len(s.Text)+20)-len(s.Text)-10)
			if _, began := impl.NodeStart(s.Node.Id, s.Node.F); began {
				checkShelf(t, after, true, "behind a crash")
			}
			for _, keep := range []int{-1, 0, 9999} { // a second crash takes nothing more
				if again := checkCrash(t, after, keep); !sameShelf(again, after) {
					t.Fatalf("a second crash makes %s of %s", briefShelf(again), briefShelf(after))
				}
			}
		}
	}
	if right < 400 || wrong < 400 {
		t.Errorf("%d shelves right, %d wrong: the test has grown weak", right, wrong)
	}
}

// All nodes write down what they hear and make it safe ahead of saying anything: crashes in between lose nothing, and all are done in the end.
func TestShelvesTogether(t *testing.T) {
	d := drawer(166)
	for round := range 30 {
		f := 1 + round%3
		way, root, _ := impl.Bring("kept through crashes", f)
		shelves := []impl.Shelf{}
		for id := range 3*f + 1 {
			shelves = append(shelves, emptyShelf(t, id, f))
		}
		for len(way) > 0 {
			at := d.below(len(way))
			x := way[at]
			way = slices.Delete(way, at, at+1)
			s, said := impl.ShelfHear(shelves[x.To], x)
			s = impl.ShelfSync(s)
			if d.below(3) == 0 {
				s = impl.ShelfCrash(s, d.below(200)-100)
			}
			shelves[x.To], way = s, append(way, said...)
		}
		for id, s := range shelves {
			slot, _ := impl.SlotOf(s.Node, root)
			if !slot.Done || !slot.Has || len(slot.Echoes) != 3*f+1 || len(slot.Readies) != 3*f+1 {
				t.Fatalf("node %d has %s", id, brief(slot))
			}
			checkShelf(t, s, true, "in the end")
		}
	}
}

// roomyShelf is a shelf with spare room behind each list of its node, and a look at all of that memory.
func roomyShelf(s impl.Shelf) (impl.Shelf, func() impl.Node) {
	node, look := roomyNode(s.Node)
	s.Node = node
	return s, look
}

func TestShelfWritesIntoNoArgument(t *testing.T) {
	d := drawer(167)
	for round := range 400 {
		f := 1 + round%3
		texts := d.brought(f, 3)
		n := impl.Node{Id: d.below(3*f + 1), F: f}
		says := []impl.Say{}
		for range 1 + d.below(5) {
			says = append(says, d.saying(n, texts))
		}
		given := impl.Shelf{Node: longAnew(n, says), Text: linesOf(says), Safe: d.below(200)}
		switch d.below(4) {
		case 0:
			given.Node = d.node(f, texts)
		case 1:
			given.Node.F = 7
		case 2:
			given.Text = strings.Repeat("x", 200000)
		}
		s, look := roomyShelf(given)
		list, lookSays := roomySays(append(says, impl.Say{Piece: d.spoilt(texts[0][0].Piece)}, texts[1][n.Id]))
		kept, keptSays := look(), lookSays()
		for _, x := range list {
			impl.SayText(x)
			impl.ShelfLine(x)
			after, said := impl.ShelfHear(s, x)
			writeOverNode(after.Node)
			writeOverSays(said)
		}
		impl.ShelfOk(s)
		writeOverNode(impl.ShelfSync(s).Node)
		for _, keep := range []int{-1, 0, d.below(400), math.MaxInt} {
			writeOverNode(impl.ShelfCrash(s, keep).Node)
		}
		told, _ := impl.ShelfRead(s.Text)
		writeOverSays(told)
		if !sameNode(look(), kept) || !slices.EqualFunc(lookSays(), keptSays, sameSay) {
			t.Fatalf("an argument or the room behind it was written into: %s, %s", briefShelf(s), brief(list))
		}
	}
}

// checkOwnShelf wants all of a shelf that is answered, and all that is said, to lie in memory of its own.
func checkOwnShelf(t *testing.T, answer impl.Shelf, said []impl.Say, given impl.Shelf, x impl.Say) {
	t.Helper()
	net := func(s impl.Shelf, says ...impl.Say) impl.Net { return impl.Net{Nodes: []impl.Node{s.Node}, Way: says} }
	checkOwnTexts(t, append(textsOfNet(net(answer, said...)), answer.Text), append(textsOfNet(net(given, x)), given.Text))
	spans := func(s impl.Shelf, says []impl.Say) []span {
		all := addSpan(nil, says)
		for _, x := range says {
			all = addSpan(all, x.Piece.Proof)
		}
		all = addSpan(all, s.Node.Slots)
		for _, slot := range s.Node.Slots {
			all = addSpan(addSpan(addSpan(all, slot.Echoes), slot.Readies), slot.Piece.Proof)
		}
		return all
	}
	checkOwnSpans(t, spans(answer, said), spans(given, []impl.Say{x}))
}

func TestShelfAnswersAreNewMemory(t *testing.T) {
	d := drawer(168)
	for round := range 30 {
		f := 1 + round%3
		texts := d.brought(f, 3)
		s := impl.Shelf{Node: started(t, d.below(3*f+1), f)}
		none := impl.Say{Piece: impl.Piece{Root: "no piece", Body: "no body", Proof: []string{"no proof"}}}
		for range 30 {
			x := d.saying(s.Node, texts)
			after, said := impl.ShelfHear(s, x)
			checkOwnShelf(t, after, said, s, x)
			refused, nothing := impl.ShelfHear(after, none)
			checkOwnShelf(t, refused, nothing, after, none)
			full := otherShelf(after, func(s *impl.Shelf) { s.Text = strings.Repeat("x", 200000) })
			refused, nothing = impl.ShelfHear(full, x)
			checkOwnShelf(t, refused, nothing, full, x)
			checkOwnShelf(t, impl.ShelfSync(after), nil, after, x)
			for _, keep := range []int{-1, 0, d.below(len(after.Text) + 1), math.MaxInt} {
				checkOwnShelf(t, impl.ShelfCrash(after, keep), nil, after, x)
				wrong := otherShelf(after, func(s *impl.Shelf) { s.Node.F = 8 })
				checkOwnShelf(t, impl.ShelfCrash(wrong, keep), nil, wrong, x)
			}
			told, _ := impl.ShelfRead(after.Text)
			checkOwnShelf(t, impl.Shelf{}, told, after, x)
			text, line := impl.SayText(x), impl.ShelfLine(x)
			checkOwnTexts(t, []string{text, line}, textsOfSays([]impl.Say{x}))
			read, _ := impl.ReadSay(text)
			checkOwnTexts(t, textsOfSays([]impl.Say{read}), append(textsOfSays([]impl.Say{x}), text))
			s = after
		}
	}
}

// What is written into one list of an answer is in no other, nor in a later answer.
func TestShelfListsAreOfTheirOwn(t *testing.T) {
	says := []impl.Say{longSays("of their own", 1)[2], longSays("another", 1)[2], longSays("of their own", 1)[2]}
	text := linesOf(says)
	told, _ := impl.ShelfRead(text)
	for i := range told {
		writeOver(told[i].Piece)
		if !slices.EqualFunc(told[i+1:], says[i+1:], sameSay) {
			t.Fatalf("what is written into saying %d is in another: %s", i, brief(told))
		}
	}
	checkRead(t, text, says, len(text))
	s := heardShelf(t, 2, 1, says)
	after := impl.ShelfCrash(s, math.MaxInt)
	writeOverSlot(after.Node.Slots[0])
	if !sameSlot(after.Node.Slots[1], s.Node.Slots[1]) {
		t.Fatalf("what is written into one slot is in another: %s", brief(after.Node))
	}
	checkCrash(t, s, math.MaxInt)
}

func TestShelfKeepsNothing(t *testing.T) {
	heard := heardOf(1, 1)[:5]
	s := heardShelf(t, 1, 1, heard)
	for range 3 {
		checkFoundAgain(t, s, math.MaxInt, heard, 0)
		checkFoundAgain(t, s, 0, heard, 0)
		checkHearsNot(t, s, impl.Say{}, "no piece")
		checkHears(t, emptyShelf(t, 1, 1), heard[0])
		checkNoSay(t, "no saying")
		checkReadSay(t, longSayText(heard[0]), heard[0])
		checkRead(t, "no lines", nil, 0)
		checkShelf(t, s, true, "asked again")
		checkShelf(t, impl.Shelf{}, false, "asked again")
	}
}
