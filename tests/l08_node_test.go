package tests

import (
	"math"
	"slices"
	"strconv"
	"strings"
	"testing"

	"loop.example/g00210/impl"
)

// noFaults are numbers of liars that no set of nodes has.
var noFaults = []int{0, -1, -3, 4, 5, 256 + 1, 1 << 32, 1<<32 + 1, -(1 << 32), math.MaxInt, math.MinInt, math.MinInt + 1}

func sameSay(a impl.Say, b impl.Say) bool {
	return a.Kind == b.Kind && a.From == b.From && a.To == b.To && a.Root == b.Root && samePiece(a.Piece, b.Piece)
}

func sameSlot(a impl.Slot, b impl.Slot) bool {
	return a.Root == b.Root && samePiece(a.Piece, b.Piece) && a.Has == b.Has && a.Echoed == b.Echoed && a.Readied == b.Readied && a.Done == b.Done && slices.Equal(a.Echoes, b.Echoes) && slices.Equal(a.Readies, b.Readies)
}

func sameNode(a impl.Node, b impl.Node) bool {
	return a.Id == b.Id && a.F == b.F && slices.EqualFunc(a.Slots, b.Slots, sameSlot)
}

func cloneSlot(s impl.Slot) impl.Slot {
	s.Piece.Proof = slices.Clone(s.Piece.Proof)
	s.Echoes, s.Readies = slices.Clone(s.Echoes), slices.Clone(s.Readies)
	return s
}

func cloneNode(n impl.Node) impl.Node {
	slots := []impl.Slot{}
	for _, slot := range n.Slots {
		slots = append(slots, cloneSlot(slot))
	}
	n.Slots = slots
	return n
}

// otherNode is n with a change made to a copy of it.
func otherNode(n impl.Node, change func(n *impl.Node)) impl.Node {
	n = cloneNode(n)
	change(&n)
	return n
}

// otherSlot is n with a change made to a copy of its first slot.
func otherSlot(n impl.Node, change func(s *impl.Slot)) impl.Node {
	return otherNode(n, func(n *impl.Node) { change(&n.Slots[0]) })
}

func otherSay(s impl.Say, change func(s *impl.Say)) impl.Say {
	s.Piece.Proof = slices.Clone(s.Piece.Proof)
	change(&s)
	return s
}

// eachNode sees every node that there can be.
func eachNode(see func(id int, f int)) {
	for f := 1; f <= 3; f++ {
		for id := range 3*f + 1 {
			see(id, f)
		}
	}
}

// longSays is what who brings a text says, reckoned apart.
func longSays(data string, f int) []impl.Say {
	says := []impl.Say{}
	for i, p := range longPieces(f+1, longEncode(data, f+1, 3*f+1)) {
		says = append(says, impl.Say{Kind: 0, From: -1, To: i, Root: p.Root, Piece: p})
	}
	return says
}

// toAll is what a node says to all.
func toAll(kind int, id int, f int, root string) []impl.Say {
	says := []impl.Say{}
	for to := range 3*f + 1 {
		says = append(says, impl.Say{Kind: kind, From: id, To: to, Root: root})
	}
	return says
}

func echoOf(from int, to int, root string) impl.Say {
	return impl.Say{Kind: 1, From: from, To: to, Root: root}
}

func readyOf(from int, to int, root string) impl.Say {
	return impl.Say{Kind: 2, From: from, To: to, Root: root}
}

func started(t *testing.T, id int, f int) impl.Node {
	t.Helper()
	n, ok := impl.NodeStart(id, f)
	if !ok || n.Id != id || n.F != f || len(n.Slots) != 0 {
		t.Fatalf("NodeStart(%d, %d) = %s, %v", id, f, brief(n), ok)
	}
	return n
}

// hearsAs wants what was reckoned apart, of a node that is right ahead of the saying and behind it.
func hearsAs(t *testing.T, n impl.Node, s impl.Say, want impl.Node, says []impl.Say) impl.Node {
	t.Helper()
	if !impl.NodeOk(n) {
		t.Fatalf("NodeOk(%s) is false", brief(n))
	}
	got, said := impl.NodeHear(n, s)
	if !sameNode(got, want) || !slices.EqualFunc(said, says, sameSay) {
		t.Fatalf("NodeHear of kind %d from %d to %d = %s, %s, want %s, %s; the node was %s", s.Kind, s.From, s.To, brief(got), brief(said), brief(want), brief(says), brief(n))
	}
	if !impl.NodeOk(got) {
		t.Fatalf("NodeHear of kind %d from %d makes %s, which is not NodeOk", s.Kind, s.From, brief(got))
	}
	return got
}

// slotHears wants the node's only slot to become this one, and these says.
func slotHears(t *testing.T, n impl.Node, s impl.Say, slot impl.Slot, says []impl.Say) impl.Node {
	t.Helper()
	return hearsAs(t, n, s, impl.Node{Id: n.Id, F: n.F, Slots: []impl.Slot{slot}}, says)
}

// staysAt wants nothing to be made of a saying, of whatever node.
func staysAt(t *testing.T, n impl.Node, s impl.Say, why string) {
	t.Helper()
	kept := cloneNode(n)
	if got, said := impl.NodeHear(n, s); !sameNode(got, kept) || len(said) != 0 {
		t.Fatalf("%s: NodeHear of kind %d from %d to %d = %s, %s, want %s and nothing", why, s.Kind, s.From, s.To, brief(got), brief(said), brief(kept))
	}
}

// longHas tells whether a piece is one that a slot of that root has at that node.
func longHas(n impl.Node, root string, p impl.Piece) bool {
	return longPieceOk(p) && p.Root == root && p.Index == n.Id && p.K == n.F+1 && p.N == 3*n.F+1
}

func longAscending(list []int, below int) bool {
	last := -1
	for _, x := range list {
		if x <= last || x >= below {
			return false
		}
		last = x
	}
	return true
}

// longNodeOk asks for one sentence of the document after the other, apart from the program.
func longNodeOk(n impl.Node) bool {
	if n.F < 1 || n.F > 3 || n.Id < 0 || n.Id > 3*n.F || len(n.Slots) > 40 {
		return false
	}
	roots := map[string]int{}
	for _, s := range n.Slots {
		roots[s.Root]++
		if roots[s.Root] > 1 || len(s.Root) != 16 || !longAscending(s.Echoes, 3*n.F+1) || !longAscending(s.Readies, 3*n.F+1) {
			return false
		}
		if s.Has != longHas(n, s.Root, s.Piece) {
			return false
		}
		if s.Echoed && !s.Has {
			return false
		}
		if s.Done && !s.Readied {
			return false
		}
		if !s.Readied && (len(s.Echoes) > 2*n.F || len(s.Readies) > n.F) {
			return false
		}
		if !s.Done && len(s.Readies) > 2*n.F {
			return false
		}
	}
	return true
}

// longWith marks who said so on a board of all nodes, and reads the board.
func longWith(list []int, from int) []int {
	board := [10]bool{}
	for _, x := range list {
		board[x] = true
	}
	if from != -1 {
		board[from] = true
	}
	read := []int{}
	for x, said := range board {
		if said {
			read = append(read, x)
		}
	}
	return read
}

// longMinds tells at which slot a node minds a saying, -1 when at none.
func longMinds(n impl.Node, s impl.Say) int {
	if !longNodeOk(n) || s.To != n.Id || s.From < -1 || s.From > 3*n.F || len(s.Root) != 16 {
		return -1
	}
	if s.Kind != 0 && s.Kind != 1 && s.Kind != 2 {
		return -1
	}
	for i, slot := range n.Slots {
		if slot.Root == s.Root {
			return i
		}
	}
	if len(n.Slots) == 40 {
		return -1
	}
	return len(n.Slots)
}

// longHear is what a node must make of any saying, by the document's words, apart from the program.
func longHear(n impl.Node, s impl.Say) (impl.Node, []impl.Say) {
	place := longMinds(n, s)
	n = cloneNode(n)
	if place < 0 {
		return n, nil
	}
	if place == len(n.Slots) {
		n.Slots = append(n.Slots, impl.Slot{Root: s.Root})
	}
	slot, says := n.Slots[place], []impl.Say{}
	if s.Kind == 0 && !slot.Echoed && longHas(n, s.Root, s.Piece) {
		slot.Piece, slot.Has, slot.Echoed = s.Piece, true, true
		says = append(says, toAll(1, n.Id, n.F, s.Root)...)
	}
	if s.Kind == 1 {
		slot.Echoes = longWith(slot.Echoes, s.From)
	}
	if s.Kind == 2 {
		slot.Readies = longWith(slot.Readies, s.From)
	}
	if !slot.Readied && (len(slot.Echoes) >= 2*n.F+1 || len(slot.Readies) >= n.F+1) {
		slot.Readied = true
		says = append(says, toAll(2, n.Id, n.F, s.Root)...)
	}
	if len(slot.Readies) >= 2*n.F+1 {
		slot.Done = true
	}
	n.Slots[place] = slot
	return n, says
}

func TestNodeNumbers(t *testing.T) {
	if impl.MaxF != 3 || impl.MaxSlots != 40 || impl.SayPiece != 0 || impl.SayEcho != 1 || impl.SayReady != 2 {
		t.Errorf("the numbers are %d, %d, %d, %d, %d", impl.MaxF, impl.MaxSlots, impl.SayPiece, impl.SayEcho, impl.SayReady)
	}
}

func TestNodeStarts(t *testing.T) {
	eachNode(func(id int, f int) {
		n := started(t, id, f)
		if !impl.NodeOk(n) || !sameNode(n, impl.Node{Id: id, F: f}) {
			t.Errorf("NodeStart(%d, %d) = %s is not NodeOk", id, f, brief(n))
		}
	})
}

func TestNodeStartRefuses(t *testing.T) {
	checkNone := func(id int, f int) {
		t.Helper()
		if n, ok := impl.NodeStart(id, f); ok || !sameNode(n, impl.Node{}) {
			t.Errorf("NodeStart(%d, %d) = %s, %v, want the zero value", id, f, brief(n), ok)
		}
		if impl.NodeOk(impl.Node{Id: id, F: f}) {
			t.Errorf("a node %d of F %d is NodeOk", id, f)
		}
	}
	for _, f := range noFaults {
		for _, id := range []int{0, 1, 3, 12, -1, 3*f + 1, 3 * f, math.MaxInt, math.MinInt} {
			checkNone(id, f)
		}
	}
	for f := 1; f <= 3; f++ {
		for _, id := range []int{-1, -2, 3*f + 1, 3*f + 2, 10, 11, 256, -256, 1 << 32, -(1 << 32), math.MaxInt, math.MinInt} {
			checkNone(id, f)
		}
	}
}

// The roots were reckoned by OpenSSL's SipHash, as in the tests of pieces.
func TestNodeBringWrittenOut(t *testing.T) {
	for _, c := range []struct {
		data string
		f    int
		root string
	}{
		{"ab", 1, "309703fcab197a42aa9ee84a4ada3169"},
		{"", 1, "20c42477264e45fc67b38e54ed6ebda2"},
		{"farstore", 2, "b3b68653b4b7547fe1e0fefe0c305a49"},
		{strings.Repeat("x", 2000), 3, "988d488e1a387900c0f69c213f022613"},
	} {
		says, root, ok := impl.Bring(c.data, c.f)
		if !ok || root != unhex(t, c.root) || len(says) != 3*c.f+1 || says[3*c.f].Root != root {
			t.Errorf("Bring(%.20q, %d) = %s, %x, %v, want the root %s", c.data, c.f, brief(says), root, ok, c.root)
		}
	}
}

func TestNodeBringByMeaning(t *testing.T) {
	d := drawer(120)
	for f := 1; f <= 3; f++ {
		for _, data := range []string{"", "a", "ab", d.text(50), d.text(255), d.text(1999), d.text(2000), strings.Repeat("\x00", 2000)} {
			says, root, ok := impl.Bring(data, f)
			want := longSays(data, f)
			if !ok || root != want[0].Root || !slices.EqualFunc(says, want, sameSay) {
				t.Fatalf("Bring of %d bytes, %d = %s, %x, %v, want %s", len(data), f, brief(says), root, ok, brief(want))
			}
			pieces, _ := impl.Cut(data, f+1, 3*f+1)
			for i, s := range says {
				if s.Kind != impl.SayPiece || s.From != -1 || s.To != i || s.Root != root || !samePiece(s.Piece, pieces[i]) {
					t.Fatalf("Bring of %d bytes, %d: saying %d is %s", len(data), f, i, brief(s))
				}
				n, said := impl.NodeHear(started(t, i, f), s)
				slot, ok := impl.SlotOf(n, root)
				if !ok || !slot.Has || !slot.Echoed || !samePiece(slot.Piece, s.Piece) || len(said) != 3*f+1 {
					t.Fatalf("node %d of %d nodes takes %s as %s and says %s", i, 3*f+1, brief(s), brief(slot), brief(said))
				}
			}
		}
	}
}

func TestNodeBringRefuses(t *testing.T) {
	d := drawer(121)
	checkNone := func(data string, f int) {
		t.Helper()
		if says, root, ok := impl.Bring(data, f); ok || root != "" || len(says) != 0 {
			t.Errorf("Bring of %d bytes, %d = %s, %x, %v, want nothing", len(data), f, brief(says), root, ok)
		}
	}
	for _, f := range noFaults {
		for _, data := range []string{"", "ab", d.text(2000), d.text(2001)} {
			checkNone(data, f)
		}
	}
	for f := 1; f <= 3; f++ {
		for _, size := range []int{2001, 2002, 4000, 65536, 65536 + 2} {
			checkNone(d.text(size), f)
		}
	}
}

func TestNodeHearsItsPiece(t *testing.T) {
	eachNode(func(id int, f int) {
		says := longSays("a piece for each", f)
		root, n := says[0].Root, started(t, id, f)
		for _, from := range []int{-1, 0, id, 3 * f} { // whoever says it: it checks by itself
			s := otherSay(says[id], func(s *impl.Say) { s.From = from })
			slot := impl.Slot{Root: root, Piece: says[id].Piece, Has: true, Echoed: true}
			after := slotHears(t, n, s, slot, toAll(impl.SayEcho, id, f, root))
			slotHears(t, after, s, slot, nil)
			slotHears(t, after, says[id], slot, nil)
		}
	})
}

// Whatever the order: a node hears an echo of itself like any other.
func TestNodeEchoesUpToTheThreshold(t *testing.T) {
	d := drawer(122)
	eachNode(func(id int, f int) {
		root := longSays("echoes", f)[0].Root
		for range 6 {
			n, slot := started(t, id, f), impl.Slot{Root: root}
			for count, from := range d.order(3*f + 1) {
				slot.Echoes = longWith(slot.Echoes, from)
				says := []impl.Say{}
				if count+1 == 2*f+1 {
					slot.Readied = true
					says = toAll(impl.SayReady, id, f, root)
				}
				n = slotHears(t, n, echoOf(from, id, root), slot, says)
				n = slotHears(t, n, echoOf(from, id, root), slot, nil)
				n = slotHears(t, n, echoOf(-1, id, root), slot, nil)
			}
			if slot, ok := impl.SlotOf(n, root); !ok || len(slot.Echoes) != 3*f+1 || slot.Done || slot.Has || slot.Echoed {
				t.Fatalf("behind all echoes the slot is %s", brief(slot))
			}
		}
	})
}

func TestNodeReadiesUpToTheThresholds(t *testing.T) {
	d := drawer(123)
	eachNode(func(id int, f int) {
		root := longSays("readies", f)[0].Root
		for range 6 {
			n, slot := started(t, id, f), impl.Slot{Root: root}
			for count, from := range d.order(3*f + 1) {
				slot.Readies = longWith(slot.Readies, from)
				says := []impl.Say{}
				if count+1 == f+1 {
					slot.Readied = true
					says = toAll(impl.SayReady, id, f, root)
				}
				slot.Done = count+1 >= 2*f+1
				n = slotHears(t, n, readyOf(from, id, root), slot, says)
				n = slotHears(t, n, readyOf(from, id, root), slot, nil)
				n = slotHears(t, n, readyOf(-1, id, root), slot, nil)
			}
			if slot, ok := impl.SlotOf(n, root); !ok || slot.Has || slot.Echoed || !samePiece(slot.Piece, impl.Piece{}) || len(slot.Echoes) != 0 {
				t.Fatalf("ready by others alone the slot is %s", brief(slot))
			}
		}
	})
}

// hearAll lets a node hear one saying after the other, as they should be heard.
func hearAll(t *testing.T, n impl.Node, says []impl.Say) (impl.Node, []impl.Say) {
	t.Helper()
	all := []impl.Say{}
	for _, s := range says {
		want, wantSays := longHear(n, s)
		n = hearsAs(t, n, s, want, wantSays)
		all = append(all, wantSays...)
	}
	return n, all
}

// nearly is all that can be heard of a root without being ready for it: one echo and one ready below the thresholds.
func nearly(id int, f int, root string) []impl.Say {
	says := []impl.Say{}
	for from := range 2 * f {
		says = append(says, echoOf(from, id, root))
	}
	for from := range f {
		says = append(says, readyOf(from, id, root))
	}
	return says
}

func TestNodeOneBelowBothThresholds(t *testing.T) {
	eachNode(func(id int, f int) {
		brought := longSays("one below", f)
		root := brought[0].Root
		n, said := hearAll(t, started(t, id, f), nearly(id, f, root))
		slot, ok := impl.SlotOf(n, root)
		if !ok || slot.Readied || slot.Done || len(said) != 0 || len(slot.Echoes) != 2*f || len(slot.Readies) != f {
			t.Fatalf("one below both thresholds: %s, %s", brief(slot), brief(said))
		}
		n, said = hearAll(t, n, []impl.Say{echoOf(-1, id, root), readyOf(-1, id, root), echoOf(0, id, root), readyOf(0, id, root), brought[id]})
		if slot, _ = impl.SlotOf(n, root); slot.Readied || !slot.Has || !slot.Echoed || !slices.EqualFunc(said, toAll(1, id, f, root), sameSay) {
			t.Fatalf("a piece behind nearly enough echoes and readies: %s, %s", brief(slot), brief(said))
		}
		for _, s := range []impl.Say{echoOf(3*f, id, root), readyOf(3*f, id, root)} {
			after, said := hearAll(t, n, []impl.Say{s, s})
			if slot, _ := impl.SlotOf(after, root); !slot.Readied || slot.Done || !slices.EqualFunc(said, toAll(2, id, f, root), sameSay) {
				t.Fatalf("one more of kind %d: %s, %s", s.Kind, brief(slot), brief(said))
			}
		}
	})
}

// Ready by echoes, it does not say so again by readies, nor the other way round.
func TestNodeIsReadyOnce(t *testing.T) {
	eachNode(func(id int, f int) {
		root := longSays("once", f)[0].Root
		echoes, readies := []impl.Say{}, []impl.Say{}
		for from := range 3*f + 1 {
			echoes, readies = append(echoes, echoOf(from, id, root)), append(readies, readyOf(from, id, root))
		}
		for _, says := range [][]impl.Say{slices.Concat(echoes, readies), slices.Concat(readies, echoes), slices.Concat(echoes, readies, echoes, readies)} {
			n, said := hearAll(t, started(t, id, f), says)
			slot, _ := impl.SlotOf(n, root)
			if !slices.EqualFunc(said, toAll(2, id, f, root), sameSay) || !slot.Readied || !slot.Done || len(slot.Echoes) != 3*f+1 || len(slot.Readies) != 3*f+1 {
				t.Fatalf("all echoes and all readies: %s, %s", brief(slot), brief(said))
			}
		}
	})
}

// A piece that comes late is still taken and echoed, and changes nothing else.
func TestNodePieceBehindAllElse(t *testing.T) {
	eachNode(func(id int, f int) {
		brought := longSays("late", f)
		root := brought[0].Root
		for _, kind := range []int{impl.SayEcho, impl.SayReady} {
			for _, count := range []int{1, f, f + 1, 2 * f, 2*f + 1, 3*f + 1} {
				n := started(t, id, f)
				for from := range count {
					n, _ = hearAll(t, n, []impl.Say{{Kind: kind, From: from, To: id, Root: root}})
				}
				slot, _ := impl.SlotOf(n, root)
				slot.Piece, slot.Has, slot.Echoed = brought[id].Piece, true, true
				n = slotHears(t, n, brought[id], slot, toAll(1, id, f, root))
				slotHears(t, n, brought[id], slot, nil)
			}
		}
	})
}

// A node's 2 F readies are F + 1 or more, so that no saying brings both at once: what is not ready then is no right node.
func TestNodeIsReadyAheadOfDone(t *testing.T) {
	eachNode(func(id int, f int) {
		root := longSays("ahead", f)[0].Root
		readies := []int{}
		for from := range 2 * f {
			readies = append(readies, from)
		}
		n := impl.Node{Id: id, F: f, Slots: []impl.Slot{{Root: root, Readies: readies, Readied: true}}}
		done := impl.Slot{Root: root, Readies: append(slices.Clone(readies), 2*f), Readied: true, Done: true}
		slotHears(t, n, readyOf(2*f, id, root), done, nil)
		n.Slots[0].Readied = false
		if impl.NodeOk(n) {
			t.Fatalf("NodeOk(%s) is true", brief(n))
		}
		staysAt(t, n, readyOf(2*f, id, root), "not ready with 2 F readies")
	})
}

// What is done stays so, and all else that was, whatever is heard.
func TestNodeIsDoneForGood(t *testing.T) {
	d := drawer(124)
	eachNode(func(id int, f int) {
		brought := longSays("for good", f)
		root := brought[0].Root
		n := started(t, id, f)
		for from := range 2*f + 1 {
			n, _ = hearAll(t, n, []impl.Say{readyOf(from, id, root)})
		}
		n, _ = hearAll(t, n, []impl.Say{brought[id]})
		for range 60 {
			after, said := hearAll(t, n, []impl.Say{d.saying(n, [][]impl.Say{brought})})
			slot, _ := impl.SlotOf(after, root)
			if !slot.Has || !slot.Echoed || !slot.Readied || !slot.Done || len(said) != 0 {
				t.Fatalf("done, then %s, %s", brief(slot), brief(said))
			}
			n = after
			n.Slots = n.Slots[:1] // other roots have slots of their own
		}
	})
}

// A slot that is right may have flags that no threshold asks for; they stay, and nothing is said for them again.
func TestNodeFlagsWithoutTheirThresholds(t *testing.T) {
	eachNode(func(id int, f int) {
		brought := longSays("flags", f)
		root, piece := brought[0].Root, brought[id].Piece
		node := func(slot impl.Slot) impl.Node { return impl.Node{Id: id, F: f, Slots: []impl.Slot{slot}} }
		has := impl.Slot{Root: root, Piece: piece, Has: true}
		echoed := impl.Slot{Root: root, Piece: piece, Has: true, Echoed: true}
		slotHears(t, node(has), brought[id], echoed, toAll(1, id, f, root))
		slotHears(t, node(has), echoOf(0, id, root), impl.Slot{Root: root, Piece: piece, Has: true, Echoes: []int{0}}, nil)
		readied := impl.Slot{Root: root, Readied: true}
		n, said := hearAll(t, node(readied), nearly(id, f, root))
		n, more := hearAll(t, n, []impl.Say{echoOf(3*f, id, root), readyOf(3*f, id, root)})
		if len(said)+len(more) != 0 || !n.Slots[0].Readied {
			t.Fatalf("readied already: %s, %s", brief(said), brief(more))
		}
		done := impl.Slot{Root: root, Readied: true, Done: true}
		slotHears(t, node(done), readyOf(0, id, root), impl.Slot{Root: root, Readied: true, Done: true, Readies: []int{0}}, nil)
		slotHears(t, node(done), readyOf(-1, id, root), done, nil)
	})
}

// Junk in Piece is not had, so it bars nothing.
func TestNodePieceThatIsNotHad(t *testing.T) {
	brought := longSays("junk", 1)
	root := brought[0].Root
	junk := otherPiece(brought[2].Piece, func(p *impl.Piece) { p.Body += "x" })
	n := impl.Node{Id: 2, F: 1, Slots: []impl.Slot{{Root: root, Piece: junk}}}
	slotHears(t, n, echoOf(1, 2, root), impl.Slot{Root: root, Piece: junk, Echoes: []int{1}}, nil)
	slotHears(t, n, brought[2], impl.Slot{Root: root, Piece: brought[2].Piece, Has: true, Echoed: true}, toAll(1, 2, 1, root))
}

// Whatever a saying tells that counts for nothing: its root has a slot from then on.
func TestNodeSlotBeginsWithAnySaying(t *testing.T) {
	eachNode(func(id int, f int) {
		brought := longSays("begins", f)
		root, next := brought[0].Root, (id+1)%(3*f+1)
		empty := impl.Slot{Root: root}
		for _, s := range []impl.Say{
			echoOf(-1, id, root), readyOf(-1, id, root),
			{Kind: 0, From: -1, To: id, Root: root},
			{Kind: 0, From: next, To: id, Root: root, Piece: brought[next].Piece},
		} {
			n := slotHears(t, started(t, id, f), s, empty, nil)
			slotHears(t, n, s, empty, nil)
		}
		s := otherSay(echoOf(next, id, root), func(s *impl.Say) { s.Piece = brought[id].Piece })
		slotHears(t, started(t, id, f), s, impl.Slot{Root: root, Echoes: []int{next}}, nil)
		s.Kind = impl.SayReady
		slotHears(t, started(t, id, f), s, impl.Slot{Root: root, Readies: []int{next}}, nil)
	})
}

// notItsPieces are pieces that a node of that number does not take for this root.
func notItsPieces(id int, f int, data string) []impl.Piece {
	brought := longSays(data, f)
	own := brought[id].Piece
	list := []impl.Piece{{}}
	for i, s := range brought {
		if i != id {
			list = append(list, s.Piece, otherPiece(s.Piece, func(p *impl.Piece) { p.Index = id }))
		}
	}
	for _, p := range []impl.Piece{longSays(data+"!", f)[id].Piece, longPieces(f+2, longEncode(data, f+2, 3*f+1))[id], longPieces(f+1, longEncode(data, f+1, 3*f+2))[id], longPieces(f, longEncode(data, f, 3*f+1))[id]} {
		list = append(list, p, otherPiece(p, func(p *impl.Piece) { p.Root = own.Root }))
	}
	for _, change := range []func(p *impl.Piece){
		func(p *impl.Piece) { p.Root = changed(p.Root, 15, 1) },
		func(p *impl.Piece) { p.Root = "" },
		func(p *impl.Piece) { p.K++ },
		func(p *impl.Piece) { p.K-- },
		func(p *impl.Piece) { p.N++ },
		func(p *impl.Piece) { p.N-- },
		func(p *impl.Piece) { p.Index++ },
		func(p *impl.Piece) { p.Index-- },
		func(p *impl.Piece) { p.Index += 256 },
		func(p *impl.Piece) { p.Body = changed(p.Body, 0, 1) },
		func(p *impl.Piece) { p.Body = "" },
		func(p *impl.Piece) { p.Proof[0] = changed(p.Proof[0], 0, 1) },
		func(p *impl.Piece) { p.Proof = p.Proof[1:] },
		func(p *impl.Piece) { p.Proof = append(p.Proof, p.Root) },
	} {
		list = append(list, otherPiece(own, change))
	}
	return list
}

func TestNodeRefusesOtherPieces(t *testing.T) {
	eachNode(func(id int, f int) {
		brought := longSays("not its own", f)
		root := brought[0].Root
		empty := impl.Slot{Root: root}
		n := slotHears(t, started(t, id, f), echoOf(-1, id, root), empty, nil)
		for _, p := range notItsPieces(id, f, "not its own") {
			s := impl.Say{Kind: impl.SayPiece, From: -1, To: id, Root: root, Piece: p}
			slotHears(t, n, s, empty, nil)
			slotHears(t, started(t, id, f), s, empty, nil)
		}
		slotHears(t, n, brought[id], impl.Slot{Root: root, Piece: brought[id].Piece, Has: true, Echoed: true}, toAll(1, id, f, root))
	})
}

// Bound under one root by a liar, pieces check whose K or N is not that of the nodes.
func TestNodeRefusesPiecesOfOtherNumbersThatCheck(t *testing.T) {
	bodies := longEncode("numbers that lie", 2, 4)
	mixed := []impl.Piece{}
	for i, k := range []int{1, 2, 3, 4} {
		mixed = append(mixed, impl.Piece{K: k, N: 4, Index: i, Body: bodies[i]})
	}
	mixed = append(bound(mixed), bound([]impl.Piece{{K: 2, N: 4, Index: 0, Body: bodies[0]}, {K: 2, N: 3, Index: 1, Body: bodies[1]}, {K: 2, N: 3, Index: 2, Body: bodies[2]}})...)
	for i, p := range mixed {
		if !impl.PieceOk(p) {
			t.Fatalf("%s does not check", brief(p))
		}
		for id := range 4 {
			takes := id == p.Index && (i == 1 || i == 4)
			slot, says := impl.Slot{Root: p.Root}, []impl.Say{}
			if takes {
				slot.Piece, slot.Has, slot.Echoed = p, true, true
				says = toAll(1, id, 1, p.Root)
			}
			slotHears(t, started(t, id, 1), impl.Say{Kind: 0, From: 3, To: id, Root: p.Root, Piece: p}, slot, says)
			if held := (impl.Node{Id: id, F: 1, Slots: []impl.Slot{{Root: p.Root, Piece: p, Has: true}}}); impl.NodeOk(held) != takes {
				t.Fatalf("NodeOk(%s) is %v", brief(held), !takes)
			}
		}
	}
}

// rightNode is a node with slots in several states, all of them right.
func rightNode(t *testing.T, id int, f int) impl.Node {
	t.Helper()
	n := started(t, id, f)
	for i, data := range []string{"first", "second", "third", "fourth"} {
		brought := longSays(data, f)
		root := brought[0].Root
		if i%2 == 0 {
			n, _ = hearAll(t, n, []impl.Say{brought[id]})
		}
		for from := range i * f {
			n, _ = hearAll(t, n, []impl.Say{echoOf(from, id, root), readyOf(3*f-from, id, root)})
		}
	}
	return n
}

func TestNodeHearRefuses(t *testing.T) {
	eachNode(func(id int, f int) {
		old, brought := longSays("first", f), longSays("another", f)
		for _, n := range []impl.Node{started(t, id, f), rightNode(t, id, f)} {
			for _, s := range []impl.Say{brought[id], old[id], echoOf(f, id, brought[0].Root), readyOf(f, id, brought[0].Root), echoOf(2*f, id, old[0].Root), readyOf(2*f, id, old[0].Root)} {
				for _, to := range []int{-1, -2, id + 1, id - 1, 3*f + 1, id + 256, id - 256, 1<<32 + id, math.MaxInt, math.MinInt, math.MinInt + id + 1} {
					staysAt(t, n, otherSay(s, func(s *impl.Say) { s.To = to }), "to another")
				}
				for _, from := range []int{-2, -3, 3*f + 1, 3*f + 2, 256, -256, 1 << 32, -(1 << 32), math.MaxInt, math.MinInt} {
					staysAt(t, n, otherSay(s, func(s *impl.Say) { s.From = from }), "from no node")
				}
				for _, kind := range []int{-1, -2, 3, 4, 256, 257, 258, -256, -255, 1 << 32, 1<<32 + 1, math.MaxInt, math.MinInt, math.MinInt + 1} {
					staysAt(t, n, otherSay(s, func(s *impl.Say) { s.Kind = kind }), "no such kind")
				}
				for _, root := range append(noSums(), s.Root[:15], s.Root+"\x00", s.Root+s.Root) {
					staysAt(t, n, otherSay(s, func(s *impl.Say) { s.Root = root }), "a root of another length")
				}
			}
			staysAt(t, n, otherSay(impl.Say{}, func(s *impl.Say) { s.To = id }), "no root")
		}
	})
}

// checkNotNode wants a node to be not right, and to make nothing of whatever it hears.
func checkNotNode(t *testing.T, n impl.Node, why string) {
	t.Helper()
	if impl.NodeOk(n) || longNodeOk(n) {
		t.Fatalf("%s: NodeOk(%s) is true", why, brief(n))
	}
	f := min(max(n.F, 1), 3)
	for _, data := range []string{"first", "of its own"} {
		brought := longSays(data, f)
		root := brought[0].Root
		for _, s := range []impl.Say{brought[min(max(n.Id, 0), 3*f)], echoOf(3*f, n.Id, root), readyOf(3*f, n.Id, root), echoOf(0, n.Id, root), readyOf(-1, n.Id, root)} {
			staysAt(t, n, otherSay(s, func(s *impl.Say) { s.To = n.Id }), why)
		}
	}
}

func TestNodeOkRefusesNumbers(t *testing.T) {
	eachNode(func(id int, f int) {
		n := rightNode(t, id, f)
		if !impl.NodeOk(n) || !longNodeOk(n) {
			t.Fatalf("NodeOk(%s) is false", brief(n))
		}
		for other := -1; other <= 11; other++ { // it has pieces, so that no other number is right
			if other != id {
				checkNotNode(t, otherNode(n, func(n *impl.Node) { n.Id = other }), "another id")
			}
		}
		for _, other := range append(slices.Clone(noFaults), 1, 2, 3) {
			if other != f {
				checkNotNode(t, otherNode(n, func(n *impl.Node) { n.F = other }), "another F")
			}
		}
	})
	for _, f := range []int{0, 4} { // pieces that would go with such nodes
		says := longSays("no such F", f)
		n := impl.Node{Id: 0, F: f, Slots: []impl.Slot{{Root: says[0].Root, Piece: says[0].Piece, Has: true, Echoed: true}}}
		checkNotNode(t, n, "no such F")
		checkNotNode(t, impl.Node{F: f}, "no such F, no slots")
	}
}

func TestNodeOkRefusesRoots(t *testing.T) {
	eachNode(func(id int, f int) {
		n := rightNode(t, id, f)
		for _, root := range append(noSums(), n.Slots[1].Root[:15], n.Slots[1].Root+"\x00") {
			checkNotNode(t, otherNode(n, func(n *impl.Node) { n.Slots[1].Root = root }), "a root of another length")
			checkNotNode(t, otherNode(n, func(n *impl.Node) { n.Slots = append(n.Slots, impl.Slot{Root: root}) }), "a root of another length behind")
		}
		for i := range n.Slots {
			again := impl.Slot{Root: n.Slots[i].Root}
			checkNotNode(t, otherNode(n, func(n *impl.Node) { n.Slots = append(n.Slots, again) }), "two slots of one root")
			checkNotNode(t, otherNode(n, func(n *impl.Node) { n.Slots = slices.Insert(n.Slots, 0, again) }), "two slots of one root, the first ahead")
			checkNotNode(t, otherNode(n, func(n *impl.Node) { n.Slots = append(n.Slots, cloneSlot(n.Slots[i])) }), "a slot twice")
		}
		for _, other := range []string{strings.Repeat("\x00", 16), strings.Repeat("\xff", 16)} { // any bytes will do
			if !impl.NodeOk(otherNode(n, func(n *impl.Node) { n.Slots = append(n.Slots, impl.Slot{Root: other}) })) {
				t.Fatalf("a slot of the root %x is not right", other)
			}
		}
	})
}

func TestNodeOkRefusesLists(t *testing.T) {
	eachNode(func(id int, f int) {
		root := longSays("first", f)[0].Root
		n := impl.Node{Id: id, F: f, Slots: []impl.Slot{{Root: root, Readied: true, Done: true}}}
		last := 3 * f
		for _, list := range [][]int{{-1}, {-2}, {last + 1}, {10}, {256}, {math.MaxInt}, {math.MinInt}, {0, 0}, {1, 0}, {last, last}, {0, last, 1}, {0, 2, 1}, {0, 1, 1}, {0, 0, 1}, {-1, 0}, {0, last + 1}, {last, 0}, {1, -1}, {0, 1, 2, 3, 3}, slices.Repeat([]int{1}, 100)} {
			checkNotNode(t, otherSlot(n, func(s *impl.Slot) { s.Echoes = list }), "echoes")
			checkNotNode(t, otherSlot(n, func(s *impl.Slot) { s.Readies = list }), "readies")
		}
		for set := range 1 << (3*f + 1) {
			if f == 3 && set%7 != 0 {
				continue
			}
			list := placesOf(set)
			right := otherSlot(n, func(s *impl.Slot) { s.Echoes, s.Readies = list, list })
			if !impl.NodeOk(right) {
				t.Fatalf("NodeOk(%s) is false", brief(right))
			}
		}
	})
}

func TestNodeOkRefusesFlags(t *testing.T) {
	eachNode(func(id int, f int) {
		brought := longSays("first", f)
		root, piece := brought[0].Root, brought[id].Piece
		node := func(slot impl.Slot) impl.Node {
			slot.Root = root
			return impl.Node{Id: id, F: f, Slots: []impl.Slot{slot}}
		}
		checkNotNode(t, node(impl.Slot{Has: true}), "has without a piece")
		checkNotNode(t, node(impl.Slot{Has: true, Echoed: true}), "has without a piece, echoed")
		checkNotNode(t, node(impl.Slot{Piece: piece}), "a piece without has")
		checkNotNode(t, node(impl.Slot{Piece: piece, Echoed: true}), "a piece without has, echoed")
		checkNotNode(t, node(impl.Slot{Echoed: true}), "echoed without has")
		checkNotNode(t, node(impl.Slot{Done: true}), "done without readied")
		checkNotNode(t, node(impl.Slot{Piece: piece, Has: true, Echoed: true, Done: true}), "done without readied, echoed")
		for _, p := range notItsPieces(id, f, "first") {
			checkNotNode(t, node(impl.Slot{Piece: p, Has: true}), "has with a piece that is not its own")
			checkNotNode(t, node(impl.Slot{Piece: p, Has: true, Echoed: true}), "echoed with a piece that is not its own")
			checkNotNode(t, node(impl.Slot{Piece: p, Echoed: true}), "echoed without has, with a piece that is not its own")
			if n := node(impl.Slot{Piece: p}); !impl.NodeOk(n) {
				t.Fatalf("a piece that is not had: NodeOk(%s) is false", brief(n))
			}
		}
		for _, slot := range []impl.Slot{{}, {Piece: piece, Has: true}, {Piece: piece, Has: true, Echoed: true}, {Readied: true}, {Readied: true, Done: true}, {Piece: piece, Has: true, Readied: true, Done: true}, {Piece: piece, Has: true, Echoed: true, Readied: true, Done: true}} {
			if n := node(slot); !impl.NodeOk(n) {
				t.Fatalf("NodeOk(%s) is false", brief(n))
			}
		}
	})
}

// For each number of echoes and readies and all flags.
func TestNodeOkThresholds(t *testing.T) {
	d := drawer(125)
	eachNode(func(id int, f int) {
		root := longSays("first", f)[0].Root
		for echoes := range 3*f + 2 {
			for readies := range 3*f + 2 {
				lists := [2][]int{d.order(3*f + 1)[:echoes], d.order(3*f + 1)[:readies]}
				slices.Sort(lists[0])
				slices.Sort(lists[1])
				for flags := range 4 {
					readied, done := flags&1 != 0, flags&2 != 0
					n := impl.Node{Id: id, F: f, Slots: []impl.Slot{{Root: root, Readied: readied, Done: done, Echoes: lists[0], Readies: lists[1]}}}
					want := readied || echoes < 2*f+1 && readies < f+1
					want = want && (done || readies < 2*f+1) && (readied || !done)
					if impl.NodeOk(n) != want {
						t.Fatalf("F %d, %d echoes, %d readies, readied %v, done %v: NodeOk is %v", f, echoes, readies, readied, done, !want)
					}
					if !want {
						checkNotNode(t, n, "a threshold without its flag")
					}
				}
			}
		}
	})
}

// The last of many slots is looked at like the first.
func TestNodeOkLooksAtEachSlot(t *testing.T) {
	n := fullNode(t, 1, 1, 40)
	for i := range n.Slots {
		for _, change := range []func(s *impl.Slot){
			func(s *impl.Slot) { s.Root = s.Root[:15] },
			func(s *impl.Slot) { s.Echoes = []int{4} },
			func(s *impl.Slot) { s.Readies = []int{1, 1} },
			func(s *impl.Slot) { s.Has = !s.Has },
			func(s *impl.Slot) { s.Done, s.Readied = true, false },
			func(s *impl.Slot) { s.Echoes, s.Readied, s.Done = []int{0, 1, 2}, false, false },
			func(s *impl.Slot) { s.Root = n.Slots[(i+1)%40].Root },
		} {
			if bad := otherNode(n, func(n *impl.Node) { change(&n.Slots[i]) }); impl.NodeOk(bad) {
				t.Fatalf("NodeOk is true with slot %d %s", i, brief(bad.Slots[i]))
			}
		}
	}
}

// fullNode is a node that began that many slots, a third of them with a piece.
func fullNode(t *testing.T, id int, f int, count int) impl.Node {
	t.Helper()
	n := started(t, id, f)
	for i := range count {
		s := longSays("slot "+strconv.Itoa(i), f)[id]
		if i%3 != 0 {
			s = impl.Say{Kind: i % 3, From: i % (3*f + 1), To: id, Root: s.Root}
		}
		n, _ = impl.NodeHear(n, s)
		if len(n.Slots) != i+1 || n.Slots[i].Root != s.Root {
			t.Fatalf("slot %d of node %d: %s", i, id, brief(n))
		}
	}
	if !impl.NodeOk(n) {
		t.Fatalf("a node with %d slots is not NodeOk", count)
	}
	return n
}

func TestNodeSlotsUpToTheLimit(t *testing.T) {
	for _, c := range [][2]int{{0, 1}, {3, 1}, {2, 2}, {0, 3}, {9, 3}} {
		id, f := c[0], c[1]
		brought := longSays("one more", f)
		root := brought[0].Root
		news := []impl.Say{brought[id], echoOf(0, id, root), readyOf(0, id, root), echoOf(-1, id, root), {Kind: 0, From: 0, To: id, Root: root}}
		last := fullNode(t, id, f, 39)
		full := fullNode(t, id, f, 40)
		for _, s := range news {
			after, _ := hearAll(t, last, []impl.Say{s})
			if len(after.Slots) != 40 || after.Slots[39].Root != root {
				t.Fatalf("slot 39 is not begun: %s", brief(after.Slots[39:]))
			}
			staysAt(t, full, s, "a new root behind MaxSlots")
		}
		for i, slot := range full.Slots { // those that there are go on
			from := (i + 1) % (3*f + 1)
			says := []impl.Say{echoOf(from, id, slot.Root), readyOf(from, id, slot.Root), longSays("slot "+strconv.Itoa(i), f)[id]}
			after, _ := hearAll(t, full, says[i%3:i%3+1])
			if sameNode(after, full) && i%3 != 0 {
				t.Fatalf("slot %d of a full node hears nothing of kind %d", i, says[i%3].Kind)
			}
		}
		over := otherNode(full, func(n *impl.Node) { n.Slots = append(n.Slots, impl.Slot{Root: root}) })
		checkNotNode(t, over, "more than MaxSlots slots")
		staysAt(t, over, echoOf(0, id, full.Slots[0].Root), "more than MaxSlots slots")
		checkNotNode(t, otherNode(over, func(n *impl.Node) { n.Slots = slices.Concat(n.Slots, n.Slots) }), "twice as many")
	}
}

// Slots stand in the order in which they began, whatever is heard of which behind that.
func TestNodeSlotsInTheirOrder(t *testing.T) {
	d := drawer(126)
	eachNode(func(id int, f int) {
		texts := []string{"zeta", "alpha", "mid", "omega", "beta", ""}
		n, order := started(t, id, f), []string{}
		for _, place := range d.order(len(texts)) {
			brought := longSays(texts[place], f)
			order = append(order, brought[0].Root)
			n, _ = hearAll(t, n, []impl.Say{{Kind: d.below(3), From: d.below(3*f+2) - 1, To: id, Root: brought[0].Root}})
			for range 3 {
				n, _ = hearAll(t, n, []impl.Say{{Kind: d.below(3), From: d.below(3*f + 1), To: id, Root: order[d.below(len(order))]}, brought[id]})
			}
		}
		for i, slot := range n.Slots {
			if slot.Root != order[i] || !slot.Has {
				t.Fatalf("slot %d is %s, want the root %x", i, brief(slot), order[i])
			}
			got, ok := impl.SlotOf(n, order[i])
			if !ok || !sameSlot(got, slot) {
				t.Fatalf("SlotOf(%x) = %s, %v, want %s", order[i], brief(got), ok, brief(slot))
			}
		}
	})
}

func checkNoSlot(t *testing.T, n impl.Node, root string) {
	t.Helper()
	if slot, ok := impl.SlotOf(n, root); ok || !sameSlot(slot, impl.Slot{}) {
		t.Fatalf("SlotOf %x = %s, %v, want the zero value", root, brief(slot), ok)
	}
}

func TestNodeSlotOf(t *testing.T) {
	eachNode(func(id int, f int) {
		for _, n := range []impl.Node{started(t, id, f), rightNode(t, id, f), {}} {
			for i, slot := range n.Slots {
				if got, ok := impl.SlotOf(n, strings.Clone(slot.Root)); !ok || !sameSlot(got, slot) {
					t.Fatalf("SlotOf of slot %d = %s, %v, want %s", i, brief(got), ok, brief(slot))
				}
				for _, root := range []string{slot.Root[:15], slot.Root + "\x00", changed(slot.Root, 0, 1), changed(slot.Root, 15, 1)} {
					checkNoSlot(t, n, root)
				}
			}
			for _, root := range append(noSums(), strings.Repeat("\x00", 16), impl.Leaf("none")) {
				checkNoSlot(t, n, root)
			}
		}
	})
}

// The document wants no right node of SlotOf: of two slots of one root the first is answered, of a short root too.
func TestNodeSlotOfAnyNode(t *testing.T) {
	first := impl.Slot{Root: "twice", Echoes: []int{7, 7, -1}, Done: true}
	second := impl.Slot{Root: "twice", Has: true}
	n := impl.Node{Id: -5, F: 99, Slots: []impl.Slot{{Root: ""}, first, second}}
	if got, ok := impl.SlotOf(n, "twice"); !ok || !sameSlot(got, first) {
		t.Errorf("SlotOf = %s, %v, want the first of the two", brief(got), ok)
	}
	if got, ok := impl.SlotOf(n, ""); !ok || !sameSlot(got, impl.Slot{}) {
		t.Errorf("SlotOf of the empty root = %s, %v", brief(got), ok)
	}
	checkNoSlot(t, n, "none")
}

// saying draws what a node may hear of texts that were brought: most of it to this node, some of it wrong.
func (d *drawer) saying(n impl.Node, texts [][]impl.Say) impl.Say {
	from := texts[d.below(len(texts))]
	s := impl.Say{Kind: d.below(3), From: d.below(3*n.F+2) - 1, To: n.Id, Root: from[0].Root}
	if s.Kind == 0 || d.below(10) == 0 {
		s.Piece = from[n.Id].Piece
	}
	switch d.below(24) {
	case 0:
		s.Piece = from[d.below(len(from))].Piece
	case 1:
		s.Piece = texts[d.below(len(texts))][n.Id].Piece
	case 2:
		s.Piece = d.spoilt(from[n.Id].Piece)
	case 3:
		s.To = d.below(12) - 1
	case 4:
		s.From = []int{-3, -2, 3*n.F + 1, 3*n.F + 2, 100}[d.below(5)]
	case 5:
		s.Kind = d.below(7) - 2
	case 6:
		s.Root = d.text(d.below(3) + 15)
	}
	return s
}

// told is what a node says once at most.
type told struct {
	kind int
	to   int
	root string
}

// checkOnlyMore wants flags to stay and lists to lose nobody.
func checkOnlyMore(t *testing.T, before impl.Node, after impl.Node) {
	t.Helper()
	for i, old := range before.Slots {
		now := after.Slots[i]
		gone := func(x int, list []int) bool { return !slices.Contains(list, x) }
		lost := slices.ContainsFunc(old.Echoes, func(x int) bool { return gone(x, now.Echoes) }) || slices.ContainsFunc(old.Readies, func(x int) bool { return gone(x, now.Readies) })
		if lost || old.Root != now.Root || old.Has && !now.Has || old.Echoed && !now.Echoed || old.Readied && !now.Readied || old.Done && !now.Done {
			t.Fatalf("slot %d was %s and is %s", i, brief(old), brief(now))
		}
	}
}

// Whatever is heard, in any order: the node is right behind it, and says of each root once that it echoes and once that it is ready.
func TestNodeWhateverItHears(t *testing.T) {
	d := drawer(127)
	done, mixed := 0, 0
	eachNode(func(id int, f int) {
		for range 12 {
			texts := d.brought(f, 1+d.below(4))
			n := started(t, id, f)
			counts := map[told]int{}
			for range 1 + d.below(60*f) {
				s := d.saying(n, texts)
				want, says := longHear(n, s)
				after := hearsAs(t, n, s, want, says)
				checkOnlyMore(t, n, after)
				for _, x := range says {
					counts[told{x.Kind, x.To, x.Root}]++
				}
				n = after
			}
			for s, count := range counts {
				if count != 1 {
					t.Fatalf("%s was said %d times", brief(s), count)
				}
			}
			for _, slot := range n.Slots {
				if slot.Done {
					done++
				} else if slot.Readied || slot.Echoed {
					mixed++
				}
			}
		}
	})
	if done < 50 || mixed < 50 {
		t.Errorf("only %d slots done and %d on their way: the test has grown weak", done, mixed)
	}
}

// list draws who said something: most lists are ascending and of nodes.
func (d *drawer) list(f int) []int {
	list := d.order(3*f + 1)[:d.below(3*f+2)]
	if d.below(40) != 0 {
		slices.Sort(list)
	}
	if d.below(40) == 0 {
		list = append(list, []int{-1, 3*f + 1, 3 * f, 0}[d.below(4)])
	}
	return list
}

// slot draws one that is right more often than not, with flags that no threshold asked for among them.
func (d *drawer) slot(id int, f int, brought []impl.Say) impl.Slot {
	s := impl.Slot{Root: brought[0].Root, Echoes: d.list(f), Readies: d.list(f)}
	if d.below(2) == 0 {
		s.Piece, s.Has, s.Echoed = brought[id].Piece, true, d.below(3) != 0
	}
	s.Done = len(s.Readies) > 2*f || d.below(4) == 0
	s.Readied = s.Done || len(s.Echoes) > 2*f || len(s.Readies) > f || d.below(4) == 0
	switch d.below(30) {
	case 0:
		s.Has = !s.Has
	case 1:
		s.Echoed = !s.Echoed
	case 2:
		s.Readied = !s.Readied
	case 3:
		s.Done = !s.Done
	case 4:
		s.Piece = d.spoilt(brought[id].Piece)
	case 5:
		s.Root = d.text(15 + d.below(3))
	}
	return s
}

// node draws a node with a slot for some of the texts.
func (d *drawer) node(f int, texts [][]impl.Say) impl.Node {
	n := impl.Node{Id: d.below(3*f + 1), F: f}
	for _, place := range d.order(len(texts))[:d.below(len(texts)+1)] {
		n.Slots = append(n.Slots, d.slot(n.Id, f, texts[place]))
		if d.below(30) == 0 {
			n.Slots = append(n.Slots, d.slot(n.Id, f, texts[place]))
		}
	}
	if d.below(30) == 0 {
		n.F = d.below(6) - 1
	}
	if d.below(30) == 0 {
		n.Id = d.below(14) - 2
	}
	return n
}

func (d *drawer) brought(f int, count int) [][]impl.Say {
	texts := [][]impl.Say{}
	for range count {
		texts = append(texts, longSays(d.text(d.below(20)), f))
	}
	return texts
}

func TestNodeAnyNode(t *testing.T) {
	d := drawer(128)
	right, wrong, spoke := 0, 0, 0
	for round := range 3000 {
		f := 1 + round%3
		texts := d.brought(f, 3)
		n := d.node(f, texts)
		ok := longNodeOk(n)
		if impl.NodeOk(n) != ok {
			t.Fatalf("NodeOk(%s) is %v", brief(n), !ok)
		}
		if !ok {
			wrong++
		} else {
			right++
		}
		for range 4 {
			s := d.saying(impl.Node{Id: min(max(n.Id, 0), 3*f), F: f}, texts)
			s.To = n.Id
			want, says := longHear(n, s)
			got, said := impl.NodeHear(n, s)
			if !sameNode(got, want) || !slices.EqualFunc(said, says, sameSay) || impl.NodeOk(got) != ok {
				t.Fatalf("NodeHear(%s, %s) = %s, %s, want %s, %s", brief(n), brief(s), brief(got), brief(said), brief(want), brief(says))
			}
			spoke += min(len(says), 1)
		}
	}
	if right < 500 || wrong < 500 || spoke < 500 {
		t.Errorf("%d nodes right, %d wrong, %d spoke: the test has grown weak", right, wrong, spoke)
	}
}

// All nodes hear what all say, in a drawn order, with F of them silent: all others are done and have their pieces.
func TestNodesTogether(t *testing.T) {
	d := drawer(129)
	for round := range 30 {
		f := 1 + round%3
		way, root, _ := impl.Bring("kept by all of them", f)
		silent := d.order(3*f + 1)[:round%(f+1)]
		nodes := []impl.Node{}
		for id := range 3*f + 1 {
			nodes = append(nodes, started(t, id, f))
		}
		for len(way) > 0 {
			at := d.below(len(way))
			s := way[at]
			way = slices.Delete(way, at, at+1)
			if slices.Contains(silent, s.To) {
				continue
			}
			n, said := impl.NodeHear(nodes[s.To], s)
			nodes[s.To] = n
			way = append(way, said...)
		}
		for id, n := range nodes {
			slot, ok := impl.SlotOf(n, root)
			if ok == slices.Contains(silent, id) || ok && (!slot.Done || !slot.Has || len(slot.Echoes) != 3*f+1-len(silent) || len(slot.Readies) != 3*f+1-len(silent)) {
				t.Fatalf("node %d, with %v silent, has %s, %v", id, silent, brief(slot), ok)
			}
		}
	}
}

// roomyNode is a node with spare room behind each of its lists, and a look at all of that memory.
func roomyNode(n impl.Node) (impl.Node, func() impl.Node) {
	spare := impl.Slot{Root: "spare room", Echoes: []int{77}}
	slots := append(cloneNode(n).Slots, spare, spare)
	lists, proofs := [][]int{}, [][]string{}
	for i := range slots {
		s := &slots[i]
		echoes, memoryEchoes := withRoom(s.Echoes)
		readies, memoryReadies := withRoom(s.Readies)
		proof, memoryProof := roomyTexts(s.Piece.Proof)
		s.Echoes, s.Readies, s.Piece.Proof = echoes, readies, proof
		lists, proofs = append(lists, memoryEchoes, memoryReadies), append(proofs, memoryProof)
	}
	look := func() impl.Node {
		seen := cloneNode(impl.Node{Id: n.Id, F: n.F, Slots: slots})
		for i := range seen.Slots {
			seen.Slots[i].Echoes = append(seen.Slots[i].Echoes, lists[2*i]...)
			seen.Slots[i].Readies = append(seen.Slots[i].Readies, lists[2*i+1]...)
			seen.Slots[i].Piece.Proof = append(seen.Slots[i].Piece.Proof, proofs[i]...)
		}
		return seen
	}
	n.Slots = slots[:len(n.Slots)]
	return n, look
}

func writeOverSlot(s impl.Slot) {
	writeOver(s.Piece)
	for _, list := range [][]int{s.Echoes, s.Readies} {
		for i := range list[:cap(list)] {
			list[:cap(list)][i] = 55
		}
	}
}

func writeOverNode(n impl.Node) {
	for i := range n.Slots[:cap(n.Slots)] {
		writeOverSlot(n.Slots[:cap(n.Slots)][i])
		n.Slots[:cap(n.Slots)][i] = impl.Slot{Root: "written over"}
	}
}

func writeOverSays(says []impl.Say) {
	for i := range says[:cap(says)] {
		writeOver(says[:cap(says)][i].Piece)
		says[:cap(says)][i] = impl.Say{Root: "written over"}
	}
}

func TestNodeWritesIntoNoArgument(t *testing.T) {
	d := drawer(130)
	for round := range 600 {
		f := 1 + round%3
		texts := d.brought(f, 3)
		n, look := roomyNode(d.node(f, texts))
		kept := look()
		for range 5 {
			s := d.saying(impl.Node{Id: min(max(n.Id, 0), 3*f), F: f}, texts)
			s.To = n.Id
			proof, memory := roomyTexts(s.Piece.Proof)
			s.Piece.Proof = proof
			keptProof := slices.Clone(memory)
			impl.NodeOk(n)
			after, said := impl.NodeHear(n, s)
			writeOverNode(after)
			writeOverSays(said)
			slot, _ := impl.SlotOf(n, s.Root)
			writeOverSlot(slot)
			if !sameNode(look(), kept) || !slices.Equal(memory, keptProof) {
				t.Fatalf("an argument or the room behind it was written into: %s, %s", brief(n), brief(memory))
			}
		}
	}
}

// textsOfNode are all texts of a node, and all its lists of numbers.
func textsOfNode(n impl.Node) ([]string, [][]int) {
	texts, lists := []string{}, [][]int{}
	for _, s := range n.Slots {
		texts = append(append(texts, s.Root), textsOf(s.Piece)...)
		lists = append(lists, s.Echoes, s.Readies)
	}
	return texts, lists
}

func textsOfSays(says []impl.Say) []string {
	texts := []string{}
	for _, s := range says {
		texts = append(append(texts, s.Root), textsOf(s.Piece)...)
	}
	return texts
}

func checkOwnLists(t *testing.T, answer [][]int, arguments [][]int) {
	t.Helper()
	for i, list := range answer {
		for _, other := range slices.Concat(answer[i+1:], arguments) {
			if sharesInts(list, other) {
				t.Fatalf("%v shares memory with %v", list, other)
			}
		}
	}
}

// checkOwnHearing wants all that is answered to lie in memory of its own.
func checkOwnHearing(t *testing.T, n impl.Node, s impl.Say) impl.Node {
	t.Helper()
	after, said := impl.NodeHear(n, s)
	given, givenLists := textsOfNode(n)
	given = append(given, textsOfSays([]impl.Say{s})...)
	texts, lists := textsOfNode(after)
	checkOwnTexts(t, append(texts, textsOfSays(said)...), given)
	checkOwnLists(t, lists, givenLists)
	if slot, ok := impl.SlotOf(after, s.Root); ok {
		one, oneLists := textsOfNode(impl.Node{Slots: []impl.Slot{slot}})
		checkOwnTexts(t, one, append(texts, s.Root))
		checkOwnLists(t, oneLists, lists)
	}
	return after
}

func TestNodeAnswersAreNewMemory(t *testing.T) {
	d := drawer(131)
	for round := range 12 {
		f := 1 + round%3
		texts := d.brought(f, 3)
		n := started(t, d.below(3*f+1), f)
		for range 40 {
			n = checkOwnHearing(t, n, d.saying(n, texts))
		}
		wrong := otherNode(n, func(n *impl.Node) { n.Slots = append(n.Slots, n.Slots[0]) })
		wrong = otherNode(wrong, func(n *impl.Node) { n.Slots[0].Root = strings.Clone(n.Slots[0].Root) })
		after, _ := impl.NodeHear(wrong, texts[0][n.Id])
		got, gotLists := textsOfNode(after)
		given, givenLists := textsOfNode(wrong)
		checkOwnTexts(t, got, given)
		checkOwnLists(t, gotLists, givenLists)
		data := d.text(50)
		says, root, _ := impl.Bring(data, f)
		checkOwnTexts(t, append(textsOfSays(says), root), []string{data})
	}
}

// What is written into one list of an answer is in no other, nor in a later answer.
func TestNodeListsAreOfTheirOwn(t *testing.T) {
	brought := longSays("of their own", 2)
	n, _ := hearAll(t, started(t, 3, 2), []impl.Say{brought[3], echoOf(1, 3, brought[0].Root), readyOf(2, 3, brought[0].Root)})
	n, _ = hearAll(t, n, []impl.Say{readyOf(4, 3, impl.Leaf("another")), echoOf(4, 3, impl.Leaf("another"))})
	s := readyOf(6, 3, brought[0].Root)
	want, _ := longHear(n, s)
	for i := range n.Slots {
		after, _ := impl.NodeHear(n, s)
		writeOverSlot(after.Slots[i])
		if other := 1 - i; !sameSlot(after.Slots[other], want.Slots[other]) {
			t.Fatalf("what is written into slot %d is in the other: %s", i, brief(after))
		}
		after, _ = impl.NodeHear(n, s)
		after.Slots[i].Echoes = append(after.Slots[i].Echoes, 99)
		if !slices.Equal(after.Slots[i].Readies, want.Slots[i].Readies) {
			t.Fatalf("what is put behind the echoes is in the readies: %s", brief(after))
		}
	}
	hearsAs(t, n, s, want, nil)
	says, _, _ := impl.Bring("of their own", 2)
	writeOverSays(says[:1:1])
	if !slices.EqualFunc(says[1:], brought[1:], sameSay) {
		t.Fatalf("what is written into one saying is in another: %s", brief(says))
	}
	writeOverSays(says)
	if again, _, _ := impl.Bring("of their own", 2); !slices.EqualFunc(again, brought, sameSay) {
		t.Errorf("what was written into an answer is in the next one: %s", brief(again))
	}
}

func TestNodeKeepsNothing(t *testing.T) {
	brought := longSays("kept by nobody", 1)
	root := brought[0].Root
	for range 3 {
		n := started(t, 2, 1)
		checkNoSlot(t, n, root)
		want, says := longHear(n, brought[2])
		hearsAs(t, n, brought[2], want, says)
		hearsAs(t, n, brought[2], want, says)
		staysAt(t, n, brought[1], "to another")
		checkNoSlot(t, n, root)
		if got, _, ok := impl.Bring("kept by nobody", 1); !ok || !slices.EqualFunc(got, brought, sameSay) {
			t.Fatalf("Bring = %s, %v", brief(got), ok)
		}
	}
}
