package tests

import (
	"cmp"
	"fmt"
	"math"
	"slices"
	"strings"
	"testing"

	"loop.example/g00210/impl"
)

// longPieceText is a piece that is PieceOk written out, apart from the program.
func longPieceText(p impl.Piece) string {
	text := fmt.Sprintf("%x %d %d %d %x %d", p.Root, p.K, p.N, p.Index, p.Body, len(p.Proof))
	for _, sum := range p.Proof {
		text += fmt.Sprintf(" %x", sum)
	}
	return text
}

// summedFor is what is summed for an answer.
func summedFor(p impl.Piece, salt string) string {
	return string([]byte{2, byte(len(salt))}) + salt + longPieceText(p)
}

// longExpect leaves the sum itself to the program, whose sums are tested apart: many are asked for.
func longExpect(p impl.Piece, salt string) string {
	if !longPieceOk(p) || len(salt) > 100 {
		return ""
	}
	return fmt.Sprintf("%x", impl.Sum(summedFor(p, salt)))
}

func longRespond(n impl.Node, root string, salt string) string {
	if slot := longSlot(n, root); slot.Has {
		return longExpect(slot.Piece, salt)
	}
	return ""
}

// longAudit is what AuditNet must tell at any arguments, by the document's words, apart from the program.
func longAudit(n impl.Net, data string, salt string, said []string) []int {
	told := []int{}
	if !longNetOk(n) || len(data) > 2000 || len(salt) > 100 || len(said) > len(n.Nodes) {
		return told
	}
	for id, p := range longPieces(n.F+1, longEncode(data, n.F+1, 3*n.F+1)) {
		answer := ""
		if id < len(said) {
			answer = said[id]
		} else if !slices.Contains(n.Liars, id) {
			answer = longRespond(n.Nodes[id], p.Root, salt)
		}
		if answer != longExpect(p, salt) {
			told = append(told, id)
		}
	}
	return told
}

// longMarkAdd is what MarkAdd must make of any list: the first mark of a node counts, and a new one goes ahead of the first greater one.
func longMarkAdd(list []impl.Mark, node int, good bool) []impl.Mark {
	with := func(m impl.Mark) impl.Mark {
		if good {
			return impl.Mark{Node: m.Node, Good: m.Good + 1, Bad: m.Bad, Row: 0}
		}
		return impl.Mark{Node: m.Node, Good: m.Good, Bad: m.Bad + 1, Row: m.Row + 1}
	}
	isNew := !slices.ContainsFunc(list, func(m impl.Mark) bool { return m.Node == node })
	after, done := []impl.Mark{}, false
	for _, m := range list {
		if !done && isNew && m.Node > node {
			after, done = append(after, with(impl.Mark{Node: node})), true
		}
		if !done && m.Node == node {
			m, done = with(m), true
		}
		after = append(after, m)
	}
	if !done {
		after = append(after, with(impl.Mark{Node: node}))
	}
	return after
}

func longAuditAll(n impl.Net, list []string, salt string, marks []impl.Mark) []impl.Mark {
	for _, text := range list {
		if !longNetOk(n) || len(text) > 2000 || len(salt) > 100 {
			continue
		}
		told := longAudit(n, text, salt, nil)
		for id := range n.Nodes {
			marks = longMarkAdd(marks, id, !slices.Contains(told, id))
		}
	}
	return marks
}

func checkExpect(t *testing.T, p impl.Piece, salt string, want string) {
	t.Helper()
	if got := impl.Expect(p, salt); got != want {
		t.Fatalf("Expect with %d bytes of salt = %q, want %q; the piece is %s", len(salt), got, want, brief(p))
	}
}

func checkRespond(t *testing.T, n impl.Node, root string, salt string, want string) {
	t.Helper()
	if got := impl.Respond(n, root, salt); got != want {
		t.Fatalf("Respond of %x with %d bytes of salt = %q, want %q; the node is %s", root, len(salt), got, want, brief(n))
	}
}

func checkAudit(t *testing.T, n impl.Net, data string, salt string, said []string, want []int) {
	t.Helper()
	if got := impl.AuditNet(n, data, salt, said); !slices.Equal(got, want) {
		t.Fatalf("AuditNet of %.30q with %d bytes of salt and %d answers = %v, want %v; F is %d, the liars are %v, the answers %.300q", data, len(salt), len(said), got, want, n.F, n.Liars, said)
	}
}

func checkMarkAdd(t *testing.T, list []impl.Mark, node int, good bool, want []impl.Mark) []impl.Mark {
	t.Helper()
	got := impl.MarkAdd(list, node, good)
	if !slices.Equal(got, want) {
		t.Fatalf("MarkAdd(%v, %d, %v) = %v, want %v", list, node, good, got, want)
	}
	return got
}

func checkSuspects(t *testing.T, list []impl.Mark, row int, want []int) {
	t.Helper()
	if got := impl.Suspects(list, row); !slices.Equal(got, want) {
		t.Fatalf("Suspects(%v, %d) = %v, want %v", list, row, got, want)
	}
}

func checkAuditAll(t *testing.T, n impl.Net, list []string, salt string, marks []impl.Mark, want []impl.Mark) {
	t.Helper()
	if got := impl.AuditAll(n, list, salt, marks); !slices.Equal(got, want) {
		t.Fatalf("AuditAll of %d texts with %d bytes of salt = %v, want %v; the marks were %v, the liars are %v", len(list), len(salt), got, want, marks, n.Liars)
	}
}

// kept is a net that was brought texts, one after the other, all of which is heard.
func kept(t *testing.T, f int, liars []int, texts ...string) impl.Net {
	t.Helper()
	n := startedNet(t, f, liars)
	for _, data := range texts {
		n = drained(t, does(t, n, opBring(data)))
	}
	return n
}

// without is n with the slots of a node gone.
func without(n impl.Net, id int) impl.Net {
	return otherNet(n, func(n *impl.Net) { n.Nodes[id].Slots = nil })
}

// allOf are the numbers of all nodes.
func allOf(f int) []int {
	all := []int{}
	for id := range 3*f + 1 {
		all = append(all, id)
	}
	return all
}

// withAll is an ascending list with more numbers in it.
func withAll(list []int, more ...int) []int {
	list = slices.Concat(list, more)
	slices.Sort(list)
	return slices.Compact(list)
}

// rightAnswers are those that all nodes should give.
func rightAnswers(data string, f int, salt string) []string {
	answers := []string{}
	for _, p := range longPieces(f+1, longEncode(data, f+1, 3*f+1)) {
		answers = append(answers, longExpect(p, salt))
	}
	return answers
}

// someSalts are as long as they may be, and shorter.
func someSalts() []string {
	return []string{"", "x", "\x00", "\x00\x00", "salt", "\x01x", allBytes()[:100], allBytes()[156:], strings.Repeat("s", 99), strings.Repeat("s", 100)}
}

// noSalts are longer than they may be.
func noSalts() []string {
	list := []string{}
	for _, size := range []int{101, 102, 127, 128, 200, 255, 256, 257, 256 + 100, 1000, 65536, 65536 + 1} {
		list = append(list, strings.Repeat("s", size))
	}
	return list
}

// Numbers of another program.
func TestExpectWrittenOut(t *testing.T) {
	for _, c := range []struct {
		data        string
		k, n, index int
		salt        string
		want        string
	}{
		{"ab", 2, 4, 0, "x", "1b80e5bbce87b6bf5c555a624f522b3b"},
		{"ab", 2, 4, 0, "", "99f1ced0a08e46648117450c8b57dd3e"},
		{"ab", 2, 4, 3, "x", "45244b8b6c26d6a6772018a7614192bb"},
		{"ab", 2, 4, 1, "\x00", "e4ebf7d8b44734b43b7bbe8885585812"},
		{"", 1, 1, 0, "salt", "80b58f3b852539a8e7a3a3f49a1efd42"},
		{"farstore", 3, 7, 6, strings.Repeat("a", 100), "c047c0b98261e0a68116d677fb5b4fe2"},
		{allBytes(), 4, 10, 9, "\x00\xff", "36dd9ceedc90fb63b48de66a47bd9709"},
	} {
		all, _ := impl.Cut(c.data, c.k, c.n)
		checkExpect(t, all[c.index], c.salt, c.want)
	}
}

func TestExpectIsASumOfSaltAndPiece(t *testing.T) {
	d := drawer(150)
	for n := 1; n <= 16; n++ {
		for k := 1; k <= n; k++ {
			all, _ := impl.Cut(d.text(d.below(80)), k, n)
			p := all[d.below(n)]
			for _, salt := range append(someSalts(), d.text(d.below(101))) {
				want := impl.HexText(impl.Sum(string([]byte{2, byte(len(salt))}) + salt + impl.PieceText(p)))
				checkExpect(t, p, salt, want)
				checkExpect(t, p, salt, fmt.Sprintf("%x", longSumText(summedFor(p, salt))))
			}
		}
	}
	for _, size := range []int{1999, 2000} {
		all, _ := impl.Cut(d.text(size), 1, 2)
		checkExpect(t, all[1], "long", longExpect(all[1], "long"))
	}
}

// Each length of salt is told by its byte, up to the limit and not behind it.
func TestExpectSaltUpToTheLimit(t *testing.T) {
	all, _ := impl.Cut("salted", 2, 4)
	for size := range 101 {
		salt := strings.Repeat("\x03", size)
		checkExpect(t, all[1], salt, longExpect(all[1], salt))
		if got := impl.Expect(all[1], salt); len(got) != 32 {
			t.Fatalf("Expect with %d bytes of salt = %q", size, got)
		}
	}
	for _, salt := range noSalts() {
		checkExpect(t, all[1], salt, "")
		checkExpect(t, impl.Piece{}, salt, "")
	}
}

func TestExpectTellsPiecesAndSaltsApart(t *testing.T) {
	seen := map[string]string{}
	for f := 1; f <= 3; f++ {
		for _, data := range []string{"", "a", "b", "ab"} {
			for _, p := range longPieces(f+1, longEncode(data, f+1, 3*f+1)) {
				for _, salt := range someSalts() {
					got, about := impl.Expect(p, salt), fmt.Sprintf("%q with %q", longPieceText(p), salt)
					if other, ok := seen[got]; ok {
						t.Fatalf("%s has the answer of %s", about, other)
					}
					seen[got] = about
				}
			}
		}
	}
}

func TestExpectRefuses(t *testing.T) {
	all, _ := impl.Cut("not to be expected", 2, 4)
	p := all[2]
	for _, change := range []func(p *impl.Piece){
		func(p *impl.Piece) { *p = impl.Piece{} },
		func(p *impl.Piece) { p.Root = "" },
		func(p *impl.Piece) { p.Root = changed(p.Root, 15, 1) },
		func(p *impl.Piece) { p.Root += "\x00" },
		func(p *impl.Piece) { p.K = 0 },
		func(p *impl.Piece) { p.K = 3 },
		func(p *impl.Piece) { p.K = -2 },
		func(p *impl.Piece) { p.K = 256 + 2 },
		func(p *impl.Piece) { p.N = 3 },
		func(p *impl.Piece) { p.N = 256 + 4 },
		func(p *impl.Piece) { p.N = math.MaxInt },
		func(p *impl.Piece) { p.Index = 3 },
		func(p *impl.Piece) { p.Index = -1 },
		func(p *impl.Piece) { p.Index = 4 },
		func(p *impl.Piece) { p.Index = math.MinInt },
		func(p *impl.Piece) { p.Body = "" },
		func(p *impl.Piece) { p.Body = changed(p.Body, 0, 1) },
		func(p *impl.Piece) { p.Body += "\x00" },
		func(p *impl.Piece) { p.Body = strings.Repeat("x", 2003) },
		func(p *impl.Piece) { p.Proof = nil },
		func(p *impl.Piece) { p.Proof = p.Proof[:1] },
		func(p *impl.Piece) { p.Proof = append(p.Proof, p.Proof[0]) },
		func(p *impl.Piece) { p.Proof[1] = changed(p.Proof[1], 0, 128) },
		func(p *impl.Piece) { p.Proof[0] = "short" },
	} {
		for _, salt := range someSalts() {
			checkExpect(t, otherPiece(p, change), salt, "")
		}
	}
	d := drawer(151)
	refused := 0
	for range 500 {
		spoilt, salt := d.spoilt(all[d.below(4)]), d.text(d.below(110))
		if want := longExpect(spoilt, salt); want == "" {
			refused++
		}
		checkExpect(t, spoilt, salt, longExpect(spoilt, salt))
	}
	if refused < 300 || refused == 500 {
		t.Errorf("%d of 500 were refused: the test has grown weak", refused)
	}
}

func TestRespondIsExpectOfItsPiece(t *testing.T) {
	eachNode(func(id int, f int) {
		n := started(t, id, f)
		texts := []string{"first", "second", "", "fourth"}
		for i, data := range texts {
			all, _ := impl.Cut(data, f+1, 3*f+1)
			checkRespond(t, n, all[0].Root, "x", "")
			n, _ = impl.NodeHear(n, longSays(data, f)[id])
			for _, old := range texts[:i+1] {
				all, _ := impl.Cut(old, f+1, 3*f+1)
				for _, salt := range []string{"", "x", strings.Repeat("s", 100)} {
					checkRespond(t, n, all[0].Root, salt, impl.Expect(all[id], salt))
					checkRespond(t, n, all[0].Root, salt, longExpect(all[id], salt))
				}
				checkRespond(t, n, all[0].Root, strings.Repeat("s", 101), "")
			}
		}
	})
}

func TestRespondOfNoPiece(t *testing.T) {
	eachNode(func(id int, f int) {
		old, brought := longSays("old", f), longSays("no piece of it", f)
		root := brought[0].Root
		n, _ := hearAll(t, started(t, id, f), []impl.Say{old[id]})
		for _, none := range append(noSums(), root, changed(old[0].Root, 0, 1), strings.Repeat("\x00", 16)) {
			checkRespond(t, n, none, "x", "")
		}
		echoed, _ := hearAll(t, n, []impl.Say{echoOf(0, id, root)})
		done := n
		for from := range 3*f + 1 {
			done, _ = hearAll(t, done, []impl.Say{readyOf(from, id, root)})
		}
		notIts, _ := hearAll(t, n, []impl.Say{{Kind: 0, From: -1, To: id, Root: root, Piece: brought[(id+1)%(3*f+1)].Piece}})
		others := otherNode(echoed, func(n *impl.Node) { n.Slots[1].Piece = brought[(id+1)%(3*f+1)].Piece })
		for _, node := range []impl.Node{echoed, done, notIts, others} {
			if slot, ok := impl.SlotOf(node, root); !ok || slot.Has || !impl.NodeOk(node) {
				t.Fatalf("the slot is to be there without a piece: %s", brief(node))
			}
			for _, salt := range someSalts() {
				checkRespond(t, node, root, salt, "")
			}
			checkRespond(t, node, old[0].Root, "x", longExpect(old[id].Piece, "x"))
		}
		if slot, _ := impl.SlotOf(done, root); !slot.Done {
			t.Fatalf("the node is to be done: %s", brief(done))
		}
	})
}

// The document wants no right node of Respond: the first slot of a root counts, and its piece must check.
func TestRespondOfAnyNode(t *testing.T) {
	all := longPieces(2, longEncode("any node", 2, 4))
	root := all[0].Root
	has := func(p impl.Piece) impl.Slot { return impl.Slot{Root: root, Piece: p, Has: true} }
	without := impl.Slot{Root: root, Piece: all[1]}
	for _, c := range []struct {
		slots []impl.Slot
		want  string
	}{
		{[]impl.Slot{has(all[1])}, longExpect(all[1], "x")},
		{[]impl.Slot{has(all[3]), has(all[1])}, longExpect(all[3], "x")},
		{[]impl.Slot{{Root: "short"}, has(all[2]), without}, longExpect(all[2], "x")},
		{[]impl.Slot{without, has(all[1])}, ""},
		{[]impl.Slot{has(impl.Piece{}), has(all[1])}, ""},
		{[]impl.Slot{has(otherPiece(all[1], func(p *impl.Piece) { p.Body += "x" }))}, ""},
		{nil, ""},
	} {
		for _, id := range []int{1, 0, -1, 99, math.MinInt, math.MaxInt} {
			for _, f := range append(slices.Clone(noFaults), 1, 2, 3) {
				checkRespond(t, impl.Node{Id: id, F: f, Slots: c.slots}, root, "x", c.want)
			}
		}
	}
	checkRespond(t, impl.Node{Slots: []impl.Slot{{Piece: all[1], Has: true}}}, "", "x", longExpect(all[1], "x"))
	checkRespond(t, impl.Node{}, "", "", "")
	d := drawer(152)
	answered := 0
	for round := range 600 {
		texts := d.brought(1+round%3, 3)
		n, root, salt := d.node(1+round%3, texts), texts[d.below(3)][0].Root, d.text(d.below(103))
		want := longRespond(n, root, salt)
		checkRespond(t, n, root, salt, want)
		answered += min(len(want), 1)
	}
	if answered < 100 || answered > 500 {
		t.Errorf("%d of 600 answered: the test has grown weak", answered)
	}
}

func TestAuditTellsJustTheLiars(t *testing.T) {
	d := drawer(153)
	for f := 1; f <= 3; f++ {
		for _, liars := range liarSets(f) {
			data := d.text(d.below(30))
			n, _ := impl.NetDo(startedNet(t, f, liars), opBring(data))
			n = impl.NetDrain(n)
			checkAudit(t, n, data, d.text(d.below(101)), nil, liars)
			checkAudit(t, n, data, "x", []string{}, liars)
			checkAudit(t, n, data+"another", "x", nil, allOf(f))
		}
		for _, data := range []string{"", "a", strings.Repeat("\x00", 100), d.text(1999), d.text(2000)} {
			n := kept(t, f, []int{f}, data)
			for _, salt := range someSalts() {
				checkAudit(t, n, data, salt, nil, []int{f})
			}
		}
	}
}

// schemed is a net with drawn liars that has heard all: what they made of texts of their own, and one text that was brought by no liar.
func (d *drawer) schemed(t *testing.T, f int, texts [][]impl.Say) impl.Net {
	t.Helper()
	liars := d.order(3*f + 1)[:d.below(f+1)]
	slices.Sort(liars)
	n := startedNet(t, f, liars)
	n.Way = d.scheme(n, texts)
	return d.drawnEnd(t, does(t, n, opBring("brought by no liar")), texts)
}

// Whatever the liars say on the way to it, and in whatever order it is heard.
func TestAuditWhateverLiarsSay(t *testing.T) {
	d := drawer(154)
	for round := range 60 {
		f := 1 + round%3
		n := d.schemed(t, f, [][]impl.Say{d.liedCutting(f), d.liedCutting(f)})
		checkAudit(t, n, "brought by no liar", d.text(d.below(101)), nil, n.Liars)
		lost := d.below(3*f + 1)
		checkAudit(t, without(n, lost), "brought by no liar", "x", nil, withAll(n.Liars, lost))
	}
}

func TestAuditTellsWhoLostWhatItHad(t *testing.T) {
	eachLiars(func(f int, liars []int) {
		n := kept(t, f, liars, "old", "lost by some", "new")
		root := longSays("lost by some", f)[0].Root
		for id := range n.Nodes {
			want := withAll(liars, id)
			checkAudit(t, without(n, id), "lost by some", "x", nil, want)
			one := otherNet(n, func(n *impl.Net) {
				n.Nodes[id].Slots = slices.DeleteFunc(n.Nodes[id].Slots, func(s impl.Slot) bool { return s.Root == root })
			})
			checkAudit(t, one, "lost by some", "x", nil, want)
			checkAudit(t, one, "old", "x", nil, liars)
			checkAudit(t, one, "new", "x", nil, liars)
			next := (id + 2) % (3*f + 1)
			checkAudit(t, without(without(n, id), next), "new", "x", nil, withAll(liars, id, next))
		}
		none := n
		for id := range n.Nodes {
			none = without(none, id)
		}
		checkAudit(t, none, "new", "x", nil, allOf(f))
	})
}

// A node that is done with a root, or only heard of it, without its piece.
func TestAuditTellsWhoHasNoPiece(t *testing.T) {
	eachLiars(func(f int, liars []int) {
		n := does(t, startedNet(t, f, liars), opBring("done without a piece"))
		brought := slices.Clone(n.Way)
		root := brought[0].Root
		for _, id := range honestOf(n) {
			sent := slices.Delete(slices.Clone(brought), id, id+1)
			after := drained(t, onWay(n, sent...))
			slot, _ := impl.SlotOf(after.Nodes[id], root)
			if enough := 3*f-len(liars) >= 2*f+1; slot.Has || slot.Done != enough {
				t.Fatalf("node %d without its piece: %s", id, brief(slot))
			}
			checkAudit(t, after, "done without a piece", "x", nil, withAll(liars, id))
			full := drained(t, n)
			full.Nodes[id].Slots = []impl.Slot{{Root: root, Readied: true, Done: true}}
			checkAudit(t, full, "done without a piece", "x", nil, withAll(liars, id))
			full.Nodes[id].Slots = []impl.Slot{{Root: root, Piece: brought[(id+1)%len(brought)].Piece, Echoes: []int{0}}}
			checkAudit(t, full, "done without a piece", "x", nil, withAll(liars, id))
			full.Nodes[id].Slots = []impl.Slot{{Root: root, Piece: brought[id].Piece, Has: true}}
			checkAudit(t, full, "done without a piece", "x", nil, liars)
		}
	})
}

// What is on its way is not there yet: only who has heard its piece has it.
func TestAuditEarly(t *testing.T) {
	eachLiars(func(f int, liars []int) {
		n := does(t, startedNet(t, f, liars), opBring("early"))
		want := allOf(f)
		checkAudit(t, n, "early", "x", nil, want)
		for id := range 3*f + 1 {
			n = does(t, n, opHear(0))
			if !slices.Contains(liars, id) {
				want = slices.DeleteFunc(want, func(other int) bool { return other == id })
			}
			checkAudit(t, n, "early", "x", nil, want)
		}
		checkAudit(t, filled(onWay(n), 3000), "early", "x", nil, liars)
	})
}

// A liar has nothing to answer by itself, whatever stands in its slots.
func TestAuditLiarWithSlots(t *testing.T) {
	eachLiars(func(f int, liars []int) {
		n := kept(t, f, nil, "also at liars")
		n.Liars = slices.Clone(liars)
		checkAudit(t, n, "also at liars", "x", nil, liars)
		checkAudit(t, n, "also at liars", "x", rightAnswers("also at liars", f, "x"), nil)
	})
}

// For each number of answers: who answers well is not told, whoever it is, and who is behind the answers answers by itself.
func TestAuditGoesByWhatIsSaid(t *testing.T) {
	eachLiars(func(f int, liars []int) {
		n := kept(t, f, liars, "said")
		right := rightAnswers("said", f, "x")
		for count := range 3*f + 2 {
			behind := slices.DeleteFunc(slices.Clone(liars), func(id int) bool { return id < count })
			checkAudit(t, n, "said", "x", right[:count], behind)
			checkAudit(t, n, "said", "x", make([]string, count), withAll(behind, allOf(f)[:count]...))
			for id := range count {
				for _, wrong := range wrongAnswers(right, "said", f, id) {
					checkAudit(t, n, "said", "x", withTextAt(right[:count], id, wrong), withAll(behind, id))
				}
			}
		}
		for _, id := range honestOf(n) { // it lost what it had, but answers well
			checkAudit(t, without(n, id), "said", "x", right, nil)
			checkAudit(t, without(n, id), "said", "x", right[:id+1], slices.DeleteFunc(slices.Clone(liars), func(liar int) bool { return liar <= id }))
		}
		checkAudit(t, startedNet(t, f, liars), "said", "x", right, nil)
	})
}

// wrongAnswers are near to the one of a node, or right in another place.
func wrongAnswers(right []string, data string, f int, id int) []string {
	next, whole := right[(id+1)%len(right)], right[id]
	return []string{"", "no", next, whole[:31], whole + "0", " " + whole, whole + "\n", changed(whole, 31, 1), strings.ToUpper(whole), unhexed(whole),
		rightAnswers(data, f, "y")[id], rightAnswers(data, f, "")[id], rightAnswers(data+"!", f, "x")[id]}
}

func unhexed(digits string) string {
	bytes, _ := impl.HexBytes(digits)
	return bytes
}

// Each set of four nodes answers badly, whoever of them is a liar.
func TestAuditEachSetOfBadAnswers(t *testing.T) {
	right := rightAnswers("each set", 1, "salt")
	for _, liars := range liarSets(1) {
		n := kept(t, 1, liars, "each set")
		for set := range 1 << 4 {
			said := slices.Clone(right)
			for _, id := range placesOf(set) {
				said[id] = right[(id+1)%4]
			}
			checkAudit(t, n, "each set", "salt", said, placesOf(set))
		}
	}
}

func TestAuditRefuses(t *testing.T) {
	eachLiars(func(f int, liars []int) {
		long := strings.Repeat("x", 2000)
		n := without(kept(t, f, liars, "refused", long), 0)
		want := withAll(liars, 0)
		salt := strings.Repeat("s", 100)
		checkAudit(t, n, "refused", salt, nil, want)
		checkAudit(t, n, long, "x", nil, want)
		checkAudit(t, n, "refused", "x", make([]string, 3*f+1), allOf(f))
		for _, count := range []int{3*f + 2, 3*f + 3, 64, 256, 1000} {
			checkAudit(t, n, "refused", "x", make([]string, count), nil)
			checkAudit(t, n, "refused", "x", append(rightAnswers("refused", f, "x"), make([]string, count-3*f-1)...), nil)
		}
		for _, salt := range noSalts() {
			checkAudit(t, n, "refused", salt, nil, nil)
			checkAudit(t, n, "refused", salt, make([]string, 3*f+1), nil)
			checkAudit(t, n, "refused", salt, rightAnswers("refused", f, "x"), nil)
		}
		for _, size := range []int{2001, 2002, 4000, 65536, 65536 + 2} {
			checkAudit(t, n, strings.Repeat("x", size), "x", nil, nil)
			checkAudit(t, n, strings.Repeat("x", size), "x", make([]string, 3*f+1), nil)
		}
		checkAudit(t, n, strings.Repeat("x", 2001), noSalts()[0], make([]string, 3*f+2), nil)
	})
}

func TestAuditOfNoNet(t *testing.T) {
	marks := []impl.Mark{{Node: 1, Good: 2}, {Node: 0, Bad: 1, Row: 1}, {Node: 7, Row: -1}}
	eachLiars(func(f int, liars []int) {
		n := kept(t, f, liars, "no net")
		for _, b := range slices.Concat(numberBreaches(n), nodeBreaches(n), otherBreaches(n)) {
			for _, said := range [][]string{nil, {"no"}, make([]string, len(b.net.Nodes)), make([]string, 11)} {
				checkAudit(t, b.net, "no net", "x", said, nil)
			}
			checkAuditAll(t, b.net, []string{"no net", "another"}, "x", marks, marks)
			checkAuditAll(t, b.net, []string{"no net"}, "x", nil, nil)
		}
	})
}

func TestAuditAnyNet(t *testing.T) {
	d := drawer(155)
	right, wrong, told := 0, 0, map[int]int{}
	for round := range 900 {
		f := 1 + round%3
		data := []string{d.text(d.below(20)), d.text(d.below(20)), d.text(d.below(20))}
		texts := [][]impl.Say{longSays(data[0], f), longSays(data[1], f), longSays(data[2], f)}
		n := d.net(f, texts)
		if longNetOk(n) {
			right++
		} else {
			wrong++
		}
		for i, text := range data {
			salt := d.text(d.below(103))
			said := rightAnswers(text, f, salt)[:d.below(3*f+2)]
			for id := range said {
				if d.below(4) == 0 {
					said[id] = d.text(d.below(33))
				}
			}
			want := longAudit(n, text, salt, said)
			checkAudit(t, n, text, salt, said, want)
			checkAudit(t, n, text, salt, nil, longAudit(n, text, salt, nil))
			checkRespond(t, n.Nodes[i], texts[i][0].Root, salt, longRespond(n.Nodes[i], texts[i][0].Root, salt))
			told[len(want)]++
		}
		marks := d.marks()
		checkAuditAll(t, n, data, "x", marks, longAuditAll(n, data, "x", marks))
	}
	if right < 200 || wrong < 200 || len(told) < 8 {
		t.Errorf("%d nets right, %d wrong, so many told: %v: the test has grown weak", right, wrong, told)
	}
}

// marks draws a list that is right or not, with numbers that no node has.
func (d *drawer) marks() []impl.Mark {
	list := []impl.Mark{}
	for range d.below(8) {
		list = append(list, impl.Mark{Node: d.below(14) - 2, Good: d.below(5), Bad: d.below(5), Row: d.below(5) - 1})
	}
	if d.below(3) != 0 {
		slices.SortFunc(list, func(a impl.Mark, b impl.Mark) int { return a.Node - b.Node })
		list = slices.CompactFunc(list, func(a impl.Mark, b impl.Mark) bool { return a.Node == b.Node })
	}
	return list
}

func TestMarkAddsOneAnswer(t *testing.T) {
	m := checkMarkAdd(t, nil, 2, false, []impl.Mark{{Node: 2, Bad: 1, Row: 1}})
	m = checkMarkAdd(t, m, 2, false, []impl.Mark{{Node: 2, Bad: 2, Row: 2}})
	m = checkMarkAdd(t, m, 2, true, []impl.Mark{{Node: 2, Good: 1, Bad: 2}})
	m = checkMarkAdd(t, m, 2, true, []impl.Mark{{Node: 2, Good: 2, Bad: 2}})
	m = checkMarkAdd(t, m, 2, false, []impl.Mark{{Node: 2, Good: 2, Bad: 3, Row: 1}})
	m = checkMarkAdd(t, m, 7, true, []impl.Mark{{Node: 2, Good: 2, Bad: 3, Row: 1}, {Node: 7, Good: 1}})
	m = checkMarkAdd(t, m, 0, false, []impl.Mark{{Node: 0, Bad: 1, Row: 1}, {Node: 2, Good: 2, Bad: 3, Row: 1}, {Node: 7, Good: 1}})
	m = checkMarkAdd(t, m, 5, true, []impl.Mark{{Node: 0, Bad: 1, Row: 1}, {Node: 2, Good: 2, Bad: 3, Row: 1}, {Node: 5, Good: 1}, {Node: 7, Good: 1}})
	checkMarkAdd(t, m, 7, false, []impl.Mark{{Node: 0, Bad: 1, Row: 1}, {Node: 2, Good: 2, Bad: 3, Row: 1}, {Node: 5, Good: 1}, {Node: 7, Good: 1, Bad: 1, Row: 1}})
	checkMarkAdd(t, []impl.Mark{}, 0, true, []impl.Mark{{Node: 0, Good: 1}})
}

// A new mark at each place of lists of each length: ahead of all, between two, behind all.
func TestMarkAddPutsNewOnesInTheirPlaces(t *testing.T) {
	for _, from := range []int{0, 1, -9, -4, 1000, math.MinInt + 1, math.MaxInt - 20} {
		for count := range 8 {
			list := []impl.Mark{}
			for i := range count {
				list = append(list, impl.Mark{Node: from + 2*i, Good: 10 + i, Bad: 20 + i, Row: 30 + i})
			}
			for place := range count + 1 {
				node := from + 2*place - 1
				checkMarkAdd(t, list, node, true, slices.Insert(slices.Clone(list), place, impl.Mark{Node: node, Good: 1}))
				checkMarkAdd(t, list, node, false, slices.Insert(slices.Clone(list), place, impl.Mark{Node: node, Bad: 1, Row: 1}))
			}
			for place, m := range list {
				want := slices.Clone(list)
				want[place] = impl.Mark{Node: m.Node, Good: m.Good + 1, Bad: m.Bad}
				checkMarkAdd(t, list, m.Node, true, want)
				want[place] = impl.Mark{Node: m.Node, Good: m.Good, Bad: m.Bad + 1, Row: m.Row + 1}
				checkMarkAdd(t, list, m.Node, false, want)
			}
		}
	}
}

func TestMarkAddOfAnyNumber(t *testing.T) {
	nodes := []int{math.MinInt, math.MinInt + 1, -(1 << 32), -256, -2, -1, 0, 1, 255, 256, 1 << 32, math.MaxInt - 1, math.MaxInt}
	d := drawer(159)
	for range 20 {
		list, want := []impl.Mark{}, []impl.Mark{}
		for _, place := range d.order(len(nodes)) {
			want = append(want, impl.Mark{Node: nodes[place], Good: 1})
			slices.SortFunc(want, func(a impl.Mark, b impl.Mark) int { return cmp.Compare(a.Node, b.Node) })
			list = checkMarkAdd(t, list, nodes[place], true, want)
		}
	}
	wraps := []impl.Mark{{Node: 3, Good: math.MaxInt, Bad: math.MaxInt, Row: math.MaxInt}}
	checkMarkAdd(t, wraps, 3, true, []impl.Mark{{Node: 3, Good: math.MinInt, Bad: math.MaxInt}})
	checkMarkAdd(t, wraps, 3, false, []impl.Mark{{Node: 3, Good: math.MaxInt, Bad: math.MinInt, Row: math.MinInt}})
	below := []impl.Mark{{Node: 3, Good: -5, Bad: -6, Row: -7}}
	checkMarkAdd(t, below, 3, true, []impl.Mark{{Node: 3, Good: -4, Bad: -6}})
	checkMarkAdd(t, below, 3, false, []impl.Mark{{Node: 3, Good: -5, Bad: -5, Row: -6}})
}

// The marks are what the answers of each node tell when they are counted.
func TestMarksCountAnswers(t *testing.T) {
	d := drawer(156)
	for range 60 {
		answers, list := map[int][]bool{}, []impl.Mark(nil)
		for range d.below(60) {
			node, good := d.below(12)-3, d.below(3) != 0
			answers[node] = append(answers[node], good)
			list = impl.MarkAdd(list, node, good)
		}
		if len(list) != len(answers) {
			t.Fatalf("%d marks of %d nodes", len(list), len(answers))
		}
		suspects := map[int][]int{}
		for i, m := range list {
			want := impl.Mark{Node: m.Node}
			for _, good := range answers[m.Node] {
				if good {
					want.Good, want.Row = want.Good+1, 0
				} else {
					want.Bad, want.Row = want.Bad+1, want.Row+1
				}
			}
			if m != want || i > 0 && list[i-1].Node >= m.Node {
				t.Fatalf("the marks of %v are %v", answers, list)
			}
			for row := range want.Row + 1 {
				suspects[row] = append(suspects[row], m.Node)
			}
		}
		for row := range 8 {
			checkSuspects(t, list, row, suspects[row])
		}
	}
}

// Marks that are not ascending, or two of one node: the first of the node counts, a new one goes ahead of the first greater one, the others stay where they are.
func TestMarkAddToAnyList(t *testing.T) {
	twice := []impl.Mark{{Node: 4, Good: 1}, {Node: 2, Bad: 3, Row: 3}, {Node: 4, Bad: 1, Row: 1}, {Node: 2}}
	checkMarkAdd(t, twice, 4, false, []impl.Mark{{Node: 4, Good: 1, Bad: 1, Row: 1}, {Node: 2, Bad: 3, Row: 3}, {Node: 4, Bad: 1, Row: 1}, {Node: 2}})
	checkMarkAdd(t, twice, 2, true, []impl.Mark{{Node: 4, Good: 1}, {Node: 2, Good: 1, Bad: 3}, {Node: 4, Bad: 1, Row: 1}, {Node: 2}})
	checkMarkAdd(t, twice, 3, true, append([]impl.Mark{{Node: 3, Good: 1}}, twice...))
	checkMarkAdd(t, twice, 5, false, append(slices.Clone(twice), impl.Mark{Node: 5, Bad: 1, Row: 1}))
	d := drawer(157)
	for range 2000 {
		list, node, good := d.marks(), d.below(16)-3, d.below(2) == 0
		checkMarkAdd(t, list, node, good, longMarkAdd(list, node, good))
	}
}

func TestSuspectsByRow(t *testing.T) {
	list := []impl.Mark{{Node: 0, Good: 9, Row: 0}, {Node: 1, Bad: 9, Row: 1}, {Node: 3, Bad: 2, Row: 2}, {Node: 4, Good: 5}, {Node: 6, Row: 5}, {Node: 9, Row: 2}}
	all := []int{0, 1, 3, 4, 6, 9}
	for _, row := range []int{0, -1, -2, -256, -(1 << 32), math.MinInt, math.MinInt + 1} {
		checkSuspects(t, list, row, all)
		checkSuspects(t, nil, row, nil)
	}
	checkSuspects(t, list, 1, []int{1, 3, 6, 9})
	checkSuspects(t, list, 2, []int{3, 6, 9})
	checkSuspects(t, list, 3, []int{6})
	checkSuspects(t, list, 4, []int{6})
	checkSuspects(t, list, 5, []int{6})
	for _, row := range []int{6, 7, 256, 257, 1 << 32, 1<<32 + 1, math.MaxInt} {
		checkSuspects(t, list, row, nil)
		checkSuspects(t, nil, row, nil)
	}
	checkSuspects(t, []impl.Mark{}, 0, nil)
}

// In the list's order, each mark by itself, whatever the numbers.
func TestSuspectsOfAnyList(t *testing.T) {
	list := []impl.Mark{{Node: 5, Row: 2}, {Node: -1, Row: 3}, {Node: 5, Row: 1}, {Node: math.MaxInt, Row: math.MaxInt}, {Node: math.MinInt, Row: math.MinInt}, {Node: 5, Row: 2}, {Node: 0, Row: -1}}
	checkSuspects(t, list, 2, []int{5, -1, math.MaxInt, 5})
	checkSuspects(t, list, 0, []int{5, -1, 5, math.MaxInt, 5})
	checkSuspects(t, list, -1, []int{5, -1, 5, math.MaxInt, 5, 0})
	checkSuspects(t, list, math.MaxInt, []int{math.MaxInt})
	checkSuspects(t, list, math.MinInt, []int{5, -1, 5, math.MaxInt, math.MinInt, 5, 0})
	checkSuspects(t, list, math.MinInt+1, []int{5, -1, 5, math.MaxInt, 5, 0})
}

// oneMarkEach is what one audit of a net adds to no marks.
func oneMarkEach(f int, told []int) []impl.Mark {
	list := []impl.Mark{}
	for id := range 3*f + 1 {
		m := impl.Mark{Node: id, Good: 1}
		if slices.Contains(told, id) {
			m = impl.Mark{Node: id, Bad: 1, Row: 1}
		}
		list = append(list, m)
	}
	return list
}

func TestAuditAllMarksEachNodeOnceForEachText(t *testing.T) {
	eachLiars(func(f int, liars []int) {
		n := without(kept(t, f, liars, "one", "two"), f)
		n = drained(t, does(t, n, opBring("three")))
		all := []string{"one", "two", "three", "never brought"}
		checkAuditAll(t, n, nil, "x", nil, nil)
		checkAuditAll(t, n, []string{"one"}, "x", nil, oneMarkEach(f, withAll(liars, f)))
		checkAuditAll(t, n, []string{"three"}, "x", nil, oneMarkEach(f, liars))
		checkAuditAll(t, n, all[3:], "x", nil, oneMarkEach(f, allOf(f)))
		for _, list := range [][]string{all, {"one", "one"}, {"three", "three"}, {"one", "three"}, {"three", "one"}, {"three", "never brought", "three"}, slices.Repeat([]string{"two"}, 50)} {
			want := []impl.Mark(nil)
			for _, data := range list {
				told := impl.AuditNet(n, data, "x", nil)
				for id := range n.Nodes {
					want = impl.MarkAdd(want, id, !slices.Contains(told, id))
				}
			}
			checkAuditAll(t, n, list, "x", nil, want)
			checkAuditAll(t, n, list, "x", nil, longAuditAll(n, list, "x", nil))
		}
		checkAuditAll(t, n, all, strings.Repeat("s", 100), nil, longAuditAll(n, all, "x", nil))
		checkAuditAll(t, n, all, "", nil, longAuditAll(n, all, "x", nil))
	})
}

// Rows go on from text to text and from call to call, and end where a node answers well.
func TestAuditAllWrittenOut(t *testing.T) {
	n := kept(t, 1, []int{3}, "ab")
	marks := impl.AuditAll(n, []string{"zz", "ab", "zz", "zz"}, "x", nil)
	good := impl.Mark{Good: 1, Bad: 3, Row: 2}
	want := []impl.Mark{good, good, good, {Node: 3, Bad: 4, Row: 4}}
	want[1].Node, want[2].Node = 1, 2
	if !slices.Equal(marks, want) {
		t.Fatalf("the marks are %v, want %v", marks, want)
	}
	checkSuspects(t, marks, 3, []int{3})
	checkSuspects(t, marks, 2, []int{0, 1, 2, 3})
	marks = impl.AuditAll(without(n, 1), []string{"ab"}, "y", marks)
	want = []impl.Mark{{Node: 0, Good: 2, Bad: 3}, {Node: 1, Good: 1, Bad: 4, Row: 3}, {Node: 2, Good: 2, Bad: 3}, {Node: 3, Bad: 5, Row: 5}}
	if !slices.Equal(marks, want) {
		t.Fatalf("the marks are %v, want %v", marks, want)
	}
	checkSuspects(t, marks, 1, []int{1, 3})
}

// A text that is refused marks nobody, wherever it stands: nor are the marks of the text ahead of it given again.
func TestAuditAllOfTextsThatAreRefused(t *testing.T) {
	long, most := strings.Repeat("x", 2001), strings.Repeat("x", 2000)
	eachLiars(func(f int, liars []int) {
		n := kept(t, f, liars, "kept", most)
		marks := []impl.Mark{{Node: -3, Good: 4}, {Node: 1, Good: 2, Bad: 5, Row: 3}, {Node: 99, Bad: 1, Row: 1}}
		for _, list := range [][]string{{long}, {long, long}, {"kept", long}, {long, "kept"}, {"kept", long, "kept"}, {"kept", long, long, "lost", long}, {"kept", most, long, most}} {
			told := slices.DeleteFunc(slices.Clone(list), func(text string) bool { return text == long })
			for _, before := range [][]impl.Mark{nil, marks} {
				checkAuditAll(t, n, list, "x", before, longAuditAll(n, told, "x", before))
				checkAuditAll(t, n, told, "x", before, longAuditAll(n, list, "x", before))
			}
		}
		checkAuditAll(t, n, []string{long}, "x", marks, marks)
		checkAuditAll(t, n, nil, "x", marks, marks)
		for _, salt := range noSalts() {
			checkAuditAll(t, n, []string{"kept", long, "lost"}, salt, marks, marks)
			checkAuditAll(t, n, []string{"kept"}, salt, nil, nil)
		}
	})
}

// Marks of other nodes stay; a list that is not as it should be is gone on with as MarkAdd does.
func TestAuditAllGoesOnWithAnyMarks(t *testing.T) {
	n := kept(t, 1, []int{2}, "marked")
	before := []impl.Mark{{Node: -1, Good: 7}, {Node: 1, Bad: 2, Row: 2}, {Node: 2, Good: 1}, {Node: 4, Bad: 3, Row: 3}, {Node: 11}}
	checkAuditAll(t, n, []string{"marked"}, "x", before, []impl.Mark{{Node: -1, Good: 7}, {Node: 0, Good: 1}, {Node: 1, Good: 1, Bad: 2}, {Node: 2, Good: 1, Bad: 1, Row: 1}, {Node: 3, Good: 1}, {Node: 4, Bad: 3, Row: 3}, {Node: 11}})
	wrong := []impl.Mark{{Node: 9}, {Node: 2, Bad: 1, Row: 1}, {Node: 0, Good: 3}, {Node: 2, Good: 5}, {Node: -6}}
	checkAuditAll(t, n, []string{"marked"}, "x", wrong, []impl.Mark{{Node: 1, Good: 1}, {Node: 3, Good: 1}, {Node: 9}, {Node: 2, Bad: 2, Row: 2}, {Node: 0, Good: 4}, {Node: 2, Good: 5}, {Node: -6}})
}

// roomyMarks are marks with spare room behind them, and all of that memory.
func roomyMarks(list []impl.Mark) ([]impl.Mark, []impl.Mark) {
	whole := append(slices.Clone(list), impl.Mark{Node: 77, Good: 77}, impl.Mark{Node: 78, Row: 78}, impl.Mark{}, impl.Mark{})
	return whole[:len(list)], whole
}

func writeOverMarks(list []impl.Mark) {
	for i := range list[:cap(list)] {
		list[:cap(list)][i] = impl.Mark{Node: 55, Good: 55, Bad: 55, Row: 55}
	}
}

func writeOverNumbers(list []int) {
	for i := range list[:cap(list)] {
		list[:cap(list)][i] = 55
	}
}

func TestAuditWritesIntoNoArgument(t *testing.T) {
	d := drawer(158)
	for round := range 200 {
		f := 1 + round%3
		texts := []string{d.text(d.below(20)), d.text(d.below(20)), strings.Repeat("x", 2000+d.below(2))}
		brought := [][]impl.Say{longSays(texts[0], f), longSays(texts[1], f)}
		n, look := roomyNet(d.net(f, brought))
		said, memorySaid := roomyTexts(rightAnswers(texts[0], f, "x")[:d.below(3*f+2)])
		list, memoryList := roomyTexts(texts)
		marks, memoryMarks := roomyMarks(d.marks())
		pieces, memory, proofs := roomyPieces([]impl.Piece{brought[0][0].Piece, d.spoilt(brought[0][0].Piece)})
		keptNet, keptSaid, keptList, keptMarks := look(), slices.Clone(memorySaid), slices.Clone(memoryList), slices.Clone(memoryMarks)
		keptPieces, keptProofs := slices.Clone(memory), cloneProofs(proofs)
		for _, p := range pieces {
			impl.Expect(p, "x")
		}
		for _, node := range n.Nodes {
			impl.Respond(node, brought[0][0].Root, "x")
		}
		writeOverNumbers(impl.AuditNet(n, texts[0], "x", said))
		writeOverNumbers(impl.AuditNet(n, texts[0], "x", nil))
		writeOverNumbers(impl.Suspects(marks, d.below(4)-1))
		for node := -3; node < 13; node++ {
			writeOverMarks(impl.MarkAdd(marks, node, node%2 == 0))
		}
		writeOverMarks(impl.AuditAll(n, list, "x", marks))
		writeOverMarks(impl.AuditAll(n, nil, "x", marks))
		writeOverMarks(impl.AuditAll(n, list, strings.Repeat("s", 101), marks))
		writeOverMarks(impl.AuditAll(impl.Net{}, list, "x", marks))
		if !sameNet(look(), keptNet) {
			t.Fatalf("the net or the room behind it was written into: %s", brief(n))
		}
		if !slices.Equal(memorySaid, keptSaid) || !slices.Equal(memoryList, keptList) || !slices.Equal(memoryMarks, keptMarks) {
			t.Fatalf("the answers, the texts, the marks or the room behind them were written into: %q, %q, %v", memorySaid, memoryList, memoryMarks)
		}
		if !slices.EqualFunc(memory, keptPieces, samePiece) || !slices.EqualFunc(proofs, keptProofs, slices.Equal[[]string]) {
			t.Fatalf("the pieces or the room behind them were written into: %s", brief(memory))
		}
	}
}

func TestAuditAnswersAreNewMemory(t *testing.T) {
	n := kept(t, 1, []int{3}, "new memory")
	data, salt := "new memory", strings.Repeat("salt", 25)
	p := longPieces(2, longEncode(data, 2, 4))[1]
	answer := impl.Expect(p, salt)
	again, responded := impl.Expect(p, salt), impl.Respond(n.Nodes[1], p.Root, salt)
	checkOwnTexts(t, []string{answer, again, responded}, append(textsOfNet(n), append(textsOf(p), salt)...))
	said := rightAnswers(data, 1, salt)
	for _, marks := range [][]impl.Mark{nil, {}, make([]impl.Mark, 0, 9), {{Node: 1}}, append(make([]impl.Mark, 0, 20), impl.Mark{Node: 2, Row: 5}, impl.Mark{Node: 1, Row: 2})} {
		arguments := addSpan(append(spansOf(n), addSpan(nil, said)...), marks)
		list := []string{data, "lost"}
		for _, after := range [][]impl.Mark{
			impl.MarkAdd(marks, 1, true), impl.MarkAdd(marks, 0, false), impl.MarkAdd(marks, 9, false),
			impl.AuditAll(n, list, salt, marks), impl.AuditAll(n, nil, salt, marks), impl.AuditAll(n, list, salt+"!", marks), impl.AuditAll(impl.Net{}, list, salt, marks),
			impl.AuditAll(n, []string{strings.Repeat("x", 2001)}, salt, marks),
		} {
			checkOwnSpans(t, addSpan(nil, after), arguments)
		}
		checkOwnSpans(t, addSpan(nil, impl.Suspects(marks, 1)), arguments)
	}
	for _, told := range [][]int{impl.AuditNet(n, data, salt, nil), impl.AuditNet(n, data, salt, said), impl.AuditNet(n, "lost", salt, said)} {
		checkOwnSpans(t, addSpan(nil, told), append(spansOf(n), addSpan(nil, said)...))
	}
}

// However the goroutines run, and whatever was asked ahead of it, one answer comes.
func TestAuditKeepsNothing(t *testing.T) {
	for f := 1; f <= 3; f++ {
		n := without(kept(t, f, []int{2 * f}, "asked again"), 0)
		said := rightAnswers("asked again", f, "x")
		for range 100 {
			checkAudit(t, n, "asked again", "x", nil, []int{0, 2 * f})
			checkAudit(t, n, "asked again", "x", said[:1], []int{2 * f})
			checkAudit(t, n, "never brought", "x", nil, allOf(f))
			checkAudit(t, n, "asked again", "x", said, nil)
			checkAuditAll(t, n, []string{"asked again"}, "x", nil, oneMarkEach(f, []int{0, 2 * f}))
			checkMarkAdd(t, nil, f, false, []impl.Mark{{Node: f, Bad: 1, Row: 1}})
		}
	}
}
