package tests

import (
	"math"
	"slices"
	"strconv"
	"strings"
	"testing"

	"loop.example/g00210/impl"
)

// noIds are numbers that no node of a net of that F has.
func noIds(f int) []int {
	return []int{-1, -2, 3*f + 1, 3*f + 2, -3*f - 1, 256, 257, -256, 1 << 32, 1<<32 + 1, -(1 << 32), math.MaxInt, math.MaxInt - 1, math.MinInt, math.MinInt + 1}
}

// longRemake is the piece of that index that goes with others, and whether there is one, apart from the program.
func longRemake(root string, pieces []impl.Piece, index int) (impl.Piece, bool) {
	_, _, whole, code := longGet(root, pieces)
	if code != impl.GetOk || index < 0 || index >= len(whole) {
		return impl.Piece{}, false
	}
	return whole[index], true
}

// longRepair is what Repair must answer at any arguments, by the document's words, apart from the program.
func longRepair(n impl.Net, id int, roots []string) (impl.Net, int) {
	helped := 0
	if !longNetOk(n) || len(roots) > 40 || !slices.Contains(honestOf(n), id) {
		return n, helped
	}
	n = cloneNet(n)
	for _, root := range roots {
		piece, ok := longRemake(root, longNetPieces(n, root), id)
		if !ok || longSlot(n.Nodes[id], root).Has {
			continue
		}
		node, says := longHear(n.Nodes[id], impl.Say{Kind: 0, From: -1, To: id, Root: root, Piece: piece})
		if len(n.Way)+len(says) <= 3000 {
			n.Nodes[id], n.Way = node, append(n.Way, says...)
			helped++
		}
	}
	return n, helped
}

// longMove is what Move must answer at any arguments, apart from the program: a text that is told twice is brought twice.
func longMove(n impl.Net, roots []string, f int, liars []int) (impl.Net, []string, bool) {
	fresh, there := impl.Net{F: f, Liars: slices.Clone(liars)}, []string{}
	if f < 1 || f > 3 || len(roots) > 30 || !longNetOk(n) {
		return impl.Net{}, nil, false
	}
	for id := range 3*f + 1 {
		fresh.Nodes = append(fresh.Nodes, impl.Node{Id: id, F: f})
	}
	if !longNetOk(fresh) {
		return impl.Net{}, nil, false
	}
	for _, root := range roots {
		text, code := longNetGet(n, root, nil)
		if code != impl.GetOk {
			there = append(there, "")
			continue
		}
		there = append(there, longSays(text, f)[0].Root)
		fresh, _ = longNetDo(fresh, opBring(text))
	}
	return longNetDrain(fresh), there, true
}

func longLost(n impl.Net, roots []string) []string {
	lost := []string{}
	for _, root := range roots {
		if _, code := longNetGet(n, root, nil); code != impl.GetOk {
			lost = append(lost, root)
		}
	}
	return lost
}

func longHealthy(n impl.Net, root string) bool {
	honest := len(honestOf(n))
	return len(longNetDone(n, root)) == honest && len(longNetPieces(n, root)) == honest
}

// checkWipe wants just the slots of that node to be gone, of whatever net.
func checkWipe(t *testing.T, n impl.Net, id int) impl.Net {
	t.Helper()
	want := cloneNet(n)
	if id >= 0 && id < len(n.Nodes) {
		want = without(n, id)
	}
	got := impl.Wipe(n, id)
	if !sameNet(got, want) {
		t.Fatalf("Wipe of node %d = %s, want %s", id, brief(got), brief(want))
	}
	return got
}

func checkRepairAs(t *testing.T, n impl.Net, id int, roots []string, want impl.Net, helped int) impl.Net {
	t.Helper()
	got, count := impl.Repair(n, id, roots)
	if !sameNet(got, want) || count != helped || impl.NetOk(got) != impl.NetOk(n) {
		t.Fatalf("Repair of node %d with %d roots = %s with %d on the way, %d, want %s with %d on the way, %d; the liars are %v", id, len(roots), brief(got.Nodes), len(got.Way), count, brief(want.Nodes), len(want.Way), helped, n.Liars)
	}
	return got
}

// checkRepair wants what was reckoned apart, and that many roots to help.
func checkRepair(t *testing.T, n impl.Net, id int, roots []string, helped int) impl.Net {
	t.Helper()
	want, count := longRepair(n, id, roots)
	if count != helped {
		t.Fatalf("node %d is helped with %d of %d roots by the reckoning, want %d", id, count, len(roots), helped)
	}
	return checkRepairAs(t, n, id, roots, want, helped)
}

// checkNoHelp wants the net to be answered as it is, and 0.
func checkNoHelp(t *testing.T, n impl.Net, id int, roots []string) {
	t.Helper()
	checkRepairAs(t, n, id, roots, cloneNet(n), 0)
}

func checkMove(t *testing.T, n impl.Net, roots []string, f int, liars []int) (impl.Net, []string) {
	t.Helper()
	want, wantThere, wantOk := longMove(n, roots, f, liars)
	got, there, ok := impl.Move(n, roots, f, liars)
	if !sameNet(got, want) || !slices.Equal(there, wantThere) || ok != wantOk {
		t.Fatalf("Move of %d roots to F %d with the liars %v = %s with %d on the way, %x, %v, want %s with %d on the way, %x, %v", len(roots), f, liars, brief(got.Nodes), len(got.Way), there, ok, brief(want.Nodes), len(want.Way), wantThere, wantOk)
	}
	return got, there
}

// settled is a net that was brought these texts and has heard all that is said of them: who is no liar heard an echo and a ready of each that is none.
func settled(f int, liars []int, texts []string) impl.Net {
	n := impl.Net{F: f, Liars: slices.Clone(liars), Nodes: make([]impl.Node, 3*f+1)}
	honest, seen := honestOf(n), map[string]int{}
	for id := range n.Nodes {
		n.Nodes[id] = impl.Node{Id: id, F: f}
	}
	for _, data := range texts {
		if seen[data]++; seen[data] > 1 {
			continue
		}
		brought := longSays(data, f)
		for _, id := range honest {
			slot := impl.Slot{Root: brought[id].Root, Piece: brought[id].Piece, Has: true, Echoed: true, Readied: true, Done: true, Echoes: honest, Readies: honest}
			n.Nodes[id].Slots = append(n.Nodes[id].Slots, slot)
		}
	}
	return n
}

// checkMoved wants all texts to be kept by the new nodes under the roots that are told, with nothing on its way.
func checkMoved(t *testing.T, n impl.Net, roots []string, f int, liars []int, texts []string) impl.Net {
	t.Helper()
	got, there, ok := impl.Move(n, roots, f, liars)
	if want := settled(f, liars, texts); !ok || !sameNet(got, want) || !slices.Equal(there, rootsOf(f, texts...)) || !impl.NetOk(got) {
		t.Fatalf("Move of %d roots to F %d with the liars %v = %s with %d on the way, %x, %v, want %s, %x", len(roots), f, liars, brief(got.Nodes), len(got.Way), there, ok, brief(want.Nodes), rootsOf(f, texts...))
	}
	for i, data := range texts {
		checkGet(t, got, there[i], nil, data, impl.GetOk)
		checkHealthy(t, got, there[i], true)
	}
	checkLost(t, got, there, nil)
	return got
}

// checkNoMove wants the zero value, nothing and false.
func checkNoMove(t *testing.T, n impl.Net, roots []string, f int, liars []int, why string) {
	t.Helper()
	if got, there, ok := impl.Move(n, roots, f, liars); ok || len(there) != 0 || !sameNet(got, impl.Net{}) {
		t.Fatalf("%s: Move of %d roots to F %d with the liars %v = %s, %x, %v, want the zero value", why, len(roots), f, liars, brief(got), there, ok)
	}
}

func checkLost(t *testing.T, n impl.Net, roots []string, want []string) {
	t.Helper()
	if got := impl.Lost(n, roots); !slices.Equal(got, want) {
		t.Fatalf("Lost of %d roots = %x, want %x", len(roots), got, want)
	}
}

func checkHealthy(t *testing.T, n impl.Net, root string, want bool) {
	t.Helper()
	if got := impl.Healthy(n, root); got != want || longHealthy(n, root) != want {
		t.Fatalf("Healthy of %x is %v, want %v; the liars are %v, the nodes are %s", root, got, want, n.Liars, brief(n.Nodes))
	}
}

// rootsOf are the roots of texts at nets of that F.
func rootsOf(f int, texts ...string) []string {
	roots := []string{}
	for _, data := range texts {
		roots = append(roots, longSays(data, f)[0].Root)
	}
	return roots
}

func numberedTexts(count int) []string {
	texts := []string{}
	for i := range count {
		texts = append(texts, "text "+strconv.Itoa(i))
	}
	return texts
}

// stored is a net that was brought many texts, a few at a time, so that there is room for all that is said.
func stored(t *testing.T, f int, liars []int, texts []string) impl.Net {
	t.Helper()
	n := startedNet(t, f, liars)
	for some := range slices.Chunk(texts, 8) {
		for _, data := range some {
			n, _ = impl.NetDo(n, opBring(data))
		}
		n = drained(t, n)
	}
	return n
}

// toldNothing are pieces that go together and tell no text: who binds them lies.
func toldNothing(f int) []impl.Piece {
	return longPieces(f+1, longWhole(strings.Repeat("\xff", 3*(f+1)), f+1, 3*f+1, 3))
}

// boundBadly are pieces that check one by one and do not go together.
func boundBadly(f int) []impl.Piece {
	bodies := longEncode("does not go together", f+1, 3*f+1)
	return longPieces(f+1, withTextAt(bodies, 2*f, changed(bodies[2*f], 0, 1)))
}

// given is n with these pieces at those nodes that are no liars, and nothing more said of them.
func given(n impl.Net, pieces []impl.Piece) impl.Net {
	return otherNet(n, func(n *impl.Net) {
		for _, id := range honestOf(*n) {
			n.Nodes[id].Slots = append(n.Nodes[id].Slots, impl.Slot{Root: pieces[0].Root, Piece: pieces[id], Has: true, Echoed: true})
		}
	})
}

// noTexts are roots of which a net has nothing.
func noTexts() []string {
	return append(noSums(), "", "no", strings.Repeat("\x00", 16), impl.Leaf("no text"))
}

func TestEpochWipesOneNode(t *testing.T) {
	eachLiars(func(f int, liars []int) {
		full := kept(t, f, nil, "first", "second")
		full.Liars = slices.Clone(liars) // liars have slots, too
		midst := impl.NetRun(does(t, kept(t, f, liars, "first", "second"), opBring("on its way")), make([]impl.NetOp, 5))
		for _, n := range []impl.Net{startedNet(t, f, liars), full, midst, filled(full, 3000)} {
			for id := range n.Nodes {
				got := checkWipe(t, n, id)
				if len(got.Nodes[id].Slots) != 0 || got.Nodes[id].Id != id || got.Nodes[id].F != f || !impl.NetOk(got) {
					t.Fatalf("behind Wipe node %d is %s", id, brief(got.Nodes[id]))
				}
				if again := checkWipe(t, got, id); !sameNet(again, got) {
					t.Fatalf("Wipe of a node that was wiped = %s, want %s", brief(again), brief(got))
				}
			}
		}
	})
}

func TestEpochWipeOfNoNode(t *testing.T) {
	eachLiars(func(f int, liars []int) {
		n := does(t, kept(t, f, liars, "kept"), opBring("on its way"))
		for _, id := range noIds(f) {
			if got := checkWipe(t, n, id); !sameNet(got, n) {
				t.Fatalf("Wipe of node %d = %s, want the net as it is", id, brief(got))
			}
		}
	})
}

// The document wants no right net of Wipe: a node's number is its place.
func TestEpochWipeOfAnyNet(t *testing.T) {
	eachLiars(func(f int, liars []int) {
		n := kept(t, f, liars, "any net")
		for _, b := range slices.Concat(numberBreaches(n), nodeBreaches(n), otherBreaches(n)) {
			for _, id := range []int{0, 1, len(b.net.Nodes) - 1, len(b.net.Nodes), -1, 3*f + 1, math.MaxInt, math.MinInt} {
				checkWipe(t, b.net, id)
			}
		}
	})
	for _, id := range []int{-1, 0, 1, math.MaxInt, math.MinInt} {
		checkWipe(t, impl.Net{}, id)
	}
}

// A liar that was wiped answers as badly as ahead of it; any other node that was wiped is told with the liars.
func TestEpochAuditTellsWhoWasWiped(t *testing.T) {
	eachLiars(func(f int, liars []int) {
		texts := []string{"first", "", strings.Repeat("x", 2000)}
		n := kept(t, f, liars, texts...)
		for id := range n.Nodes {
			w := checkWipe(t, n, id)
			for _, data := range texts {
				checkAudit(t, n, data, "x", nil, liars)
				checkAudit(t, w, data, "x", nil, withAll(liars, id))
				checkAudit(t, w, data, strings.Repeat("s", 100), nil, withAll(liars, id))
			}
			if slices.Contains(liars, id) {
				continue
			}
			helped := drained(t, checkRepair(t, w, id, rootsOf(f, texts...), 3))
			for _, data := range texts {
				checkAudit(t, helped, data, "x", nil, liars)
			}
			one := drained(t, checkRepair(t, w, id, rootsOf(f, texts[1]), 1))
			checkAudit(t, one, texts[1], "x", nil, liars)
			checkAudit(t, one, texts[0], "x", nil, withAll(liars, id))
		}
	})
}

// afresh is a slot of a node that has just been helped.
func afresh(p impl.Piece) impl.Slot {
	return impl.Slot{Root: p.Root, Piece: p, Has: true, Echoed: true}
}

// Each node that is no liar: with all roots that were brought it has all its pieces again, and says so to all, root by root.
func TestEpochRepairsANodeThatWasWiped(t *testing.T) {
	d := drawer(171)
	eachLiars(func(f int, liars []int) {
		texts := []string{"first", "", d.text(50), d.text(2000)}
		roots := rootsOf(f, texts...)
		for _, n := range []impl.Net{kept(t, f, liars, texts...), does(t, kept(t, f, liars, texts...), opBring("on its way"))} {
			for _, id := range honestOf(n) {
				w := checkWipe(t, n, id)
				want := cloneNet(w)
				for i, root := range roots {
					want.Nodes[id].Slots = append(want.Nodes[id].Slots, afresh(longSays(texts[i], f)[id].Piece))
					want.Way = append(want.Way, toAll(impl.SayEcho, id, f, root)...)
				}
				got := checkRepairAs(t, w, id, roots, want, 4)
				checkRepair(t, w, id, roots, 4)
				checkRepaired(t, n, drained(t, got), id, roots)
			}
		}
	})
}

// checkRepaired wants a node that was helped to have what it had ahead of being wiped. That the others echoed a root and were ready for it is not said to it again.
func checkRepaired(t *testing.T, before impl.Net, after impl.Net, id int, roots []string) {
	t.Helper()
	for i, root := range roots {
		was, is := before.Nodes[id].Slots[i], after.Nodes[id].Slots[i]
		if is.Root != root || was.Root != root || !samePiece(is.Piece, was.Piece) || !is.Has || !is.Echoed || !slices.Equal(is.Echoes, []int{id}) || is.Readied || is.Done {
			t.Fatalf("slot %d of node %d was %s and is %s", i, id, brief(was), brief(is))
		}
		checkNetPieces(t, after, root, longNetPieces(before, root))
		for _, other := range honestOf(before) {
			if other != id && !sameSlot(longSlot(after.Nodes[other], root), longSlot(before.Nodes[other], root)) {
				t.Fatalf("node %d is %s, want %s", other, brief(after.Nodes[other]), brief(before.Nodes[other]))
			}
		}
	}
}

// Where what the others say is still on its way, the slots of a node that was wiped and helped are wholly as they were.
func TestEpochRepairAheadOfWhatTheOthersSay(t *testing.T) {
	eachLiars(func(f int, liars []int) {
		texts := []string{"first", "second", "third"}
		roots, n := rootsOf(f, texts...), startedNet(t, f, liars)
		for _, data := range texts {
			n = does(t, n, opBring(data))
		}
		n = impl.NetRun(n, make([]impl.NetOp, 3*(3*f+1))) // all pieces are heard, no echo is
		want := drained(t, n)
		for _, id := range honestOf(n) {
			got := drained(t, checkRepair(t, checkWipe(t, n, id), id, roots, 3))
			if !sameNet(got, want) {
				t.Fatalf("node %d is %s, want %s", id, brief(got.Nodes[id]), brief(want.Nodes[id]))
			}
			for _, data := range texts {
				checkKept(t, got, data)
			}
		}
	})
}

// Every node that is no liar is wiped and helped, one after the other: nothing is lost on the way.
func TestEpochRepairsOneAfterTheOther(t *testing.T) {
	eachLiars(func(f int, liars []int) {
		texts := []string{"first", "second", "third"}
		roots := rootsOf(f, texts...)
		n := kept(t, f, liars, texts...)
		for _, id := range honestOf(n) {
			n = checkWipe(t, n, id)
			checkLost(t, n, roots, nil)
			n = drained(t, checkRepair(t, n, id, roots, 3))
			for i, data := range texts {
				checkGet(t, n, roots[i], nil, data, impl.GetOk)
				checkAudit(t, n, data, "x", nil, liars)
			}
		}
	})
}

// In the order in which they are told, and no other: slots begin so.
func TestEpochRepairGoesByTheRoots(t *testing.T) {
	texts := []string{"a", "b", "c"}
	roots := rootsOf(2, texts...)
	n := checkWipe(t, kept(t, 2, []int{0, 5}, texts...), 3)
	for _, places := range [][]int{{}, {0}, {2}, {1, 0}, {2, 1, 0}, {1, 2, 0}, {0, 1, 2}} {
		told := pickTexts(roots, places)
		got := checkRepair(t, n, 3, told, len(told))
		for i, root := range told {
			if got.Nodes[3].Slots[i].Root != root || got.Way[7*i].Root != root || got.Way[7*i+6].Root != root {
				t.Fatalf("the slots of %v are %s, on the way are %s", places, brief(got.Nodes[3].Slots), brief(got.Way))
			}
		}
	}
	for _, none := range [][]string{nil, {}} {
		checkNoHelp(t, n, 3, none)
	}
}

func TestEpochRepairOfARootToldTwice(t *testing.T) {
	eachLiars(func(f int, liars []int) {
		a, b := rootsOf(f, "a")[0], rootsOf(f, "b")[0]
		n := kept(t, f, liars, "a", "b")
		id := honestOf(n)[1]
		w := checkWipe(t, n, id)
		once := checkRepair(t, w, id, []string{a, b}, 2)
		for _, roots := range [][]string{{a, a, b}, {a, b, a}, {a, b, b, a, a, b}, {"", a, "", b, a}} {
			if got := checkRepair(t, w, id, roots, 2); !sameNet(got, once) {
				t.Fatalf("told twice: %s with %d on the way, want %d", brief(got.Nodes[id]), len(got.Way), len(once.Way))
			}
		}
		checkRepair(t, w, id, slices.Repeat([]string{a}, 40), 1)
		checkNoHelp(t, once, id, []string{a, b, a})
		checkNoHelp(t, drained(t, once), id, []string{a, b, a})
	})
}

func TestEpochRepairOfRootsOfNoText(t *testing.T) {
	eachLiars(func(f int, liars []int) {
		n := given(kept(t, f, liars, "kept"), boundBadly(f))
		bad, root := boundBadly(f)[0].Root, rootsOf(f, "kept")[0]
		for _, id := range honestOf(n) {
			w := checkWipe(t, n, id)
			for _, none := range append(noTexts(), bad, changed(root, 15, 1), root+"\x00", root[:15], rootsOf(f, "never brought")[0]) {
				checkNoHelp(t, w, id, []string{none})
				checkRepair(t, w, id, []string{none, root, none}, 1)
			}
			checkNoHelp(t, n, id, []string{bad})
		}
	})
}

// Bodies that tell no text go together all the same: a node is helped to its piece of them.
func TestEpochRepairOfBodiesThatTellNoText(t *testing.T) {
	eachLiars(func(f int, liars []int) {
		pieces := toldNothing(f)
		root := pieces[0].Root
		n := given(startedNet(t, f, liars), pieces)
		checkGet(t, n, root, nil, "", impl.GetBad)
		checkLost(t, n, []string{root}, []string{root})
		for _, id := range honestOf(n) {
			got := checkRepair(t, checkWipe(t, n, id), id, []string{root}, 1)
			if !sameSlot(got.Nodes[id].Slots[0], afresh(pieces[id])) {
				t.Fatalf("node %d is %s", id, brief(got.Nodes[id]))
			}
		}
	})
}

// A node that has its piece is not helped, whether it echoed it or not; one that has a slot without it is, and the rest of the slot stays.
func TestEpochRepairOfANodeWithASlot(t *testing.T) {
	eachLiars(func(f int, liars []int) {
		n := kept(t, f, liars, "ahead", "slot", "behind")
		brought := longSays("slot", f)
		root := brought[0].Root
		for _, id := range honestOf(n) {
			checkNoHelp(t, n, id, []string{root})
			silent := otherNet(n, func(n *impl.Net) { n.Nodes[id].Slots[1].Echoed = false })
			checkNoHelp(t, silent, id, []string{root, root})
			for _, slot := range []impl.Slot{
				{Root: root},
				{Root: root, Piece: brought[(id+1)%(3*f+1)].Piece},
				{Root: root, Echoes: []int{0}, Readies: []int{3 * f}},
				{Root: root, Readied: true, Done: true, Echoes: allOf(f), Readies: allOf(f)},
			} {
				bare := otherNet(n, func(n *impl.Net) { n.Nodes[id].Slots[1] = slot })
				slot.Piece, slot.Has, slot.Echoed = brought[id].Piece, true, true
				want := otherNet(bare, func(n *impl.Net) {
					n.Nodes[id].Slots[1] = slot
					n.Way = append(n.Way, toAll(impl.SayEcho, id, f, root)...)
				})
				checkRepairAs(t, bare, id, []string{root}, want, 1)
				checkRepairAs(t, bare, id, append(rootsOf(f, "behind", "slot", "ahead"), root), want, 1)
				checkHealthy(t, bare, root, false)
				checkHealthy(t, want, root, slot.Done)
			}
		}
	})
}

// F + 1 pieces of nodes that are no liars are enough, one less is not; what a liar has does not count.
func TestEpochRepairFromFewPieces(t *testing.T) {
	for f := 1; f <= 3; f++ {
		for _, liars := range [][]int{nil, {0}, allOf(f)[2*f+1:]} {
			n := kept(t, f, nil, "few")
			n.Liars = slices.Clone(liars)
			root, honest := rootsOf(f, "few")[0], honestOf(n)
			id := honest[1]
			n = checkWipe(t, n, id)
			have := slices.DeleteFunc(honest, func(x int) bool { return x == id })
			for len(have) > f+1 {
				n, have = checkWipe(t, n, have[0]), have[1:]
			}
			checkRepair(t, n, id, []string{root}, 1)
			checkLost(t, n, []string{root}, nil)
			n = checkWipe(t, n, have[f/2])
			checkNoHelp(t, n, id, []string{root})
			checkLost(t, n, []string{root}, []string{root})
		}
	}
}

func TestEpochRepairUpToMaxSlots(t *testing.T) {
	texts := numberedTexts(40)
	for f := 1; f <= 3; f++ {
		n, roots, id := stored(t, f, []int{0}, texts), rootsOf(f, texts...), 2*f
		w := checkWipe(t, n, id)
		got := checkRepair(t, w, id, roots, 40)
		if len(got.Way) != 40*(3*f+1) || len(got.Nodes[id].Slots) != 40 {
			t.Fatalf("%d slots, %d on the way", len(got.Nodes[id].Slots), len(got.Way))
		}
		checkRepaired(t, n, drained(t, got), id, roots)
		checkRepair(t, w, id, roots[:39], 39)
		for _, more := range [][]string{append(slices.Clone(roots), roots[0]), append(slices.Clone(roots), ""), slices.Repeat(roots[:1], 41), make([]string, 41), slices.Concat(roots, roots), make([]string, 1000)} {
			checkNoHelp(t, w, id, more)
			checkNoHelp(t, n, id, more)
		}
		checkRepair(t, w, id, append(make([]string, 39), roots[0]), 1)
	}
}

func TestEpochRepairUpToMaxWay(t *testing.T) {
	eachLiars(func(f int, liars []int) {
		nodes, roots := 3*f+1, rootsOf(f, "a", "b", "c")
		n := kept(t, f, liars, "a", "b", "c")
		id := honestOf(n)[0]
		w := checkWipe(t, n, id)
		if got := checkRepair(t, filled(w, 3000-nodes), id, roots[:1], 1); len(got.Way) != 3000 {
			t.Fatalf("%d on the way", len(got.Way))
		}
		for _, count := range []int{3000 - nodes + 1, 3000 - nodes + 2, 2999, 3000} {
			checkNoHelp(t, filled(w, count), id, roots[:1])
			checkNoHelp(t, filled(w, count), id, roots)
		}
		for room := range 4 {
			checkRepair(t, filled(w, 3000-room*nodes), id, roots, room)
			if room > 0 {
				checkRepair(t, filled(w, 3000-room*nodes+1), id, roots, room-1)
				checkRepair(t, filled(w, 3000-room*nodes+1), id, slices.Concat(roots, roots), room-1)
			}
		}
	})
}

// A node whose slots are full hears a piece of a new root and makes nothing of it: it says nothing then, so this has room on any way, also behind a root that was left out.
func TestEpochRepairOfAFullNode(t *testing.T) {
	for f := 1; f <= 3; f++ {
		nodes, id := 3*f+1, 2
		n := kept(t, f, []int{0}, "slot 1", "new to it")
		roots := rootsOf(f, "slot 1", "new to it")
		n.Nodes[id] = fullNode(t, id, f, 40)
		if longSlot(n.Nodes[id], roots[0]).Has {
			t.Fatal("the node is to have a slot without its piece")
		}
		checkRepair(t, n, id, roots, 2)
		checkRepairAs(t, n, id, roots[1:], n, 1)
		for _, count := range []int{3000 - nodes + 1, 3000} {
			full := filled(n, count)
			checkRepairAs(t, full, id, roots, full, 1)
			checkNoHelp(t, full, id, roots[:1])
		}
		fits := filled(n, 3000-nodes)
		got := checkRepair(t, fits, id, roots, 2)
		if slot := longSlot(got.Nodes[id], roots[0]); len(got.Way) != 3000 || !slot.Has || len(got.Nodes[id].Slots) != 40 {
			t.Fatalf("%d on the way, %s", len(got.Way), brief(slot))
		}
	}
}

func TestEpochRepairOfNobody(t *testing.T) {
	eachLiars(func(f int, liars []int) {
		roots := rootsOf(f, "kept")
		n := kept(t, f, liars, "kept")
		for _, id := range append(noIds(f), liars...) {
			checkNoHelp(t, n, id, roots)
			checkNoHelp(t, n, id, nil)
			checkNoHelp(t, filled(n, 3000), id, roots)
		}
		for _, liar := range liars { // one that has its piece, and one that was wiped
			all := kept(t, f, nil, "kept")
			all.Liars = slices.Clone(liars)
			checkNoHelp(t, all, liar, roots)
			checkNoHelp(t, checkWipe(t, all, liar), liar, roots)
		}
	})
}

func TestEpochRepairOfNoNet(t *testing.T) {
	eachLiars(func(f int, liars []int) {
		n := kept(t, f, liars, "no net")
		roots, id := rootsOf(f, "no net"), honestOf(n)[f]
		w := checkWipe(t, n, id)
		checkRepair(t, w, id, roots, 1)
		for _, b := range slices.Concat(numberBreaches(w), nodeBreaches(w), otherBreaches(w)) {
			checkNoHelp(t, b.net, id, roots)
			checkNoHelp(t, b.net, -1, roots)
			checkNoHelp(t, b.net, id, make([]string, 41))
		}
	})
}

// Every set of liars that a net can have, to one of the next F with its own.
func TestEpochMovesAllTexts(t *testing.T) {
	d := drawer(172)
	texts := []string{"first", "", d.text(30), d.text(2000)}
	eachLiars(func(f int, liars []int) {
		n := kept(t, f, liars, texts...)
		roots := rootsOf(f, texts...)
		for _, g := range []int{1, 2, 3} {
			sets := someLiars(g)
			for _, others := range [][]int{nil, sets[len(sets)-1], sets[1+d.below(len(sets)-1)]} {
				checkMoved(t, n, roots, g, others, texts)
			}
		}
		turned := []int{3, 2, 1, 0}
		checkMoved(t, n, pickTexts(roots, turned), 2, []int{1}, pickTexts(texts, turned))
		checkMove(t, n, roots, 2, []int{1})
	})
	for g := 1; g <= 3; g++ {
		n := kept(t, 1, []int{2}, "each set of liars")
		for _, others := range liarSets(g) {
			got, there, ok := impl.Move(n, rootsOf(1, "each set of liars"), g, others)
			if !ok || len(there) != 1 || len(got.Way) != 0 {
				t.Fatalf("Move to F %d with the liars %v = %s, %x, %v", g, others, brief(got), there, ok)
			}
			checkKept(t, got, "each set of liars")
		}
	}
}

// From net to net and back, with a node wiped at each.
func TestEpochMovesOnAndOn(t *testing.T) {
	d := drawer(173)
	texts := []string{d.text(5), d.text(100), "", d.text(999)}
	n, roots := kept(t, 1, []int{3}, texts...), rootsOf(1, texts...)
	for round := range 12 {
		f := 1 + d.below(3)
		liars := d.order(3*f + 1)[:d.below(f+1)]
		slices.Sort(liars)
		honest := honestOf(n)
		n = checkWipe(t, n, honest[d.below(len(honest))])
		checkLost(t, n, roots, nil)
		n, roots = checkMoved(t, n, roots, f, liars, texts), rootsOf(f, texts...)
		if round%2 == 0 {
			id := honestOf(n)[0]
			n = drained(t, checkRepair(t, checkWipe(t, n, id), id, roots, 4))
		}
	}
}

// What is on its way at the old net is not handed over, nor is what nobody asks for.
func TestEpochMoveLeavesTheOldNetBehind(t *testing.T) {
	eachLiars(func(f int, liars []int) {
		n := kept(t, f, liars, "asked for", "not asked for")
		roots := rootsOf(f, "asked for")
		want := checkMoved(t, n, roots, 2, []int{6}, []string{"asked for"})
		midst := impl.NetRun(does(t, n, opBring("on its way")), make([]impl.NetOp, 3*f))
		for _, other := range []impl.Net{midst, filled(n, 3000), checkWipe(t, n, honestOf(n)[1])} {
			if got := checkMoved(t, other, roots, 2, []int{6}, []string{"asked for"}); !sameNet(got, want) {
				t.Fatalf("the new net is %s, want %s", brief(got), brief(want))
			}
		}
	})
}

func TestEpochMoveOfRootsThatTellNothing(t *testing.T) {
	eachLiars(func(f int, liars []int) {
		n := given(given(kept(t, f, liars, "a", "b"), boundBadly(f)), toldNothing(f))
		a, b := rootsOf(f, "a")[0], rootsOf(f, "b")[0]
		for _, none := range append(noTexts(), boundBadly(f)[0].Root, toldNothing(f)[0].Root, rootsOf(f, "never brought")[0], changed(a, 0, 1)) {
			for _, roots := range [][]string{{none}, {none, none}, {none, a}, {a, none, b}, {b, a, none}, {none, a, none, b, none}} {
				got, there := checkMove(t, n, roots, 1, []int{2})
				for i, root := range roots {
					if (there[i] == "") != (root == none) {
						t.Fatalf("the roots there of %x are %x", roots, there)
					}
				}
				checkLost(t, got, there, slices.DeleteFunc(slices.Clone(there), func(root string) bool { return root != "" }))
			}
		}
		for _, roots := range [][]string{nil, {}, {""}, slices.Repeat([]string{"no"}, 30)} {
			got, there := checkMove(t, n, roots, f, liars)
			if !sameNet(got, startedNet(t, f, liars)) || len(there) != len(roots) || slices.ContainsFunc(there, func(root string) bool { return root != "" }) {
				t.Fatalf("Move of nothing = %s, %x", brief(got), there)
			}
		}
	})
}

// The old net has lost what too few of its nodes still have.
func TestEpochMoveOfWhatIsLost(t *testing.T) {
	for f := 1; f <= 3; f++ {
		n := kept(t, f, []int{0}, "lost")
		for id := range 2 * f {
			n = checkWipe(t, n, id)
		}
		n = drained(t, does(t, n, opBring("kept")))
		roots := rootsOf(f, "lost", "kept")
		checkMoved(t, n, roots, f, nil, []string{"lost", "kept"})
		n = checkWipe(t, n, 2*f)
		n = drained(t, does(t, n, opBring("later")))
		checkLost(t, n, rootsOf(f, "lost", "kept", "later"), roots[:1])
		if _, there := checkMove(t, n, rootsOf(f, "lost", "kept", "later"), f, nil); there[0] != "" || there[1] == "" || there[2] == "" {
			t.Fatalf("the roots there are %x", there)
		}
	}
}

// Each time it is told a root has its place in the answer, and the new net is as when it is told once.
func TestEpochMoveOfARootToldTwice(t *testing.T) {
	eachLiars(func(f int, liars []int) {
		n := kept(t, f, liars, "a", "b")
		a, b := rootsOf(f, "a")[0], rootsOf(f, "b")[0]
		for _, g := range []int{1, 3} {
			once := checkMoved(t, n, []string{a, b}, g, []int{2}, []string{"a", "b"})
			checkMove(t, n, []string{a, b, b, a}, g, []int{2})
			for _, c := range []struct {
				roots []string
				texts []string
			}{
				{[]string{a, a, b}, []string{"a", "a", "b"}},
				{[]string{a, b, a}, []string{"a", "b", "a"}},
				{[]string{a, b, b, a, a}, []string{"a", "b", "b", "a", "a"}},
			} {
				if got := checkMoved(t, n, c.roots, g, []int{2}, c.texts); !sameNet(got, once) {
					t.Fatalf("told twice: %s, want %s", brief(got), brief(once))
				}
			}
			checkMoved(t, n, slices.Repeat([]string{b}, 30), g, nil, slices.Repeat([]string{"b"}, 30))
			none := slices.Repeat([]string{"", a}, 3)
			if _, there := checkMove(t, n, none, g, nil); there[0] != "" || there[5] != rootsOf(g, "a")[0] || there[1] != there[5] {
				t.Fatalf("the roots there are %x", there)
			}
		}
	})
}

func TestEpochMoveUpToThirtyRoots(t *testing.T) {
	texts := numberedTexts(31)
	for f := 1; f <= 3; f++ {
		n, roots := stored(t, f, []int{f}, texts), rootsOf(f, texts...)
		for _, c := range []struct {
			f     int
			liars []int
		}{{1, nil}, {1, []int{3}}, {2, []int{0, 1}}, {3, []int{4}}} {
			checkMoved(t, n, roots[:30], c.f, c.liars, texts[:30])
		}
		checkMoved(t, n, roots[2:], 3, nil, texts[2:31])
		twice := append(slices.Clone(roots[:29]), roots[3])
		checkMoved(t, n, twice, 3, nil, append(slices.Clone(texts[:29]), texts[3]))
		for _, more := range [][]string{roots, slices.Repeat(roots[:1], 31), make([]string, 31), append(slices.Clone(roots[:30]), ""), make([]string, 1000)} {
			checkNoMove(t, n, more, f, []int{f}, "more roots than may be")
		}
		checkMove(t, n, make([]string, 30), f, nil)
	}
}

// Thirty texts brought at once to ten nodes of whom none lies have not quite room for all that is said of them: drained as far as it goes, the new net has all to be had.
func TestEpochMoveOfThirtyTextsToTenNodes(t *testing.T) {
	texts := numberedTexts(30)
	n := stored(t, 1, []int{1}, texts)
	got, there := checkMove(t, n, rootsOf(1, texts...), 3, nil)
	if len(got.Way) == 0 || !impl.NetOk(got) {
		t.Fatalf("%d on the way", len(got.Way))
	}
	checkLost(t, got, there, nil)
	for i, data := range texts {
		checkGet(t, got, there[i], nil, data, impl.GetOk)
		checkAudit(t, got, data, "x", nil, nil)
	}
}

func TestEpochMoveRefuses(t *testing.T) {
	eachLiars(func(f int, liars []int) {
		n := kept(t, f, liars, "not moved")
		roots := rootsOf(f, "not moved")
		for _, g := range noFaults {
			for _, others := range [][]int{nil, {}, {0}, {1}} {
				checkNoMove(t, n, roots, g, others, "no such F")
				checkNoMove(t, n, nil, g, others, "no such F")
			}
		}
		for g := 1; g <= 3; g++ {
			for _, others := range notLiars(g) {
				checkNoMove(t, n, roots, g, others, "no such liars")
			}
		}
		for _, b := range slices.Concat(numberBreaches(n), nodeBreaches(n), otherBreaches(n)) {
			checkNoMove(t, b.net, roots, f, liars, b.why)
			checkNoMove(t, b.net, nil, 1, nil, b.why)
			checkNoMove(t, b.net, make([]string, 31), 0, nil, b.why)
		}
	})
}

func TestEpochLostInOrder(t *testing.T) {
	eachLiars(func(f int, liars []int) {
		n := given(given(kept(t, f, liars, "a", "b", ""), boundBadly(f)), toldNothing(f))
		had := rootsOf(f, "a", "b", "")
		gone := append(noTexts(), boundBadly(f)[0].Root, toldNothing(f)[0].Root, rootsOf(f, "never brought")[0], changed(had[0], 7, 1))
		checkLost(t, n, nil, nil)
		checkLost(t, n, []string{}, nil)
		checkLost(t, n, had, nil)
		checkLost(t, n, slices.Concat(had, had), nil)
		checkLost(t, n, gone, gone)
		checkLost(t, n, slices.Concat(gone, had, gone), slices.Concat(gone, gone))
		for _, root := range gone {
			checkLost(t, n, []string{had[0], root, had[1], root, root}, []string{root, root, root})
		}
		turned := slices.Clone(gone)
		slices.Reverse(turned)
		checkLost(t, n, slices.Concat(had, turned), turned)
		checkLost(t, n, slices.Repeat(append([]string{"no"}, had...), 60), slices.Repeat([]string{"no"}, 60)) // as many as there are
		checkLost(t, does(t, n, opBring("on its way")), rootsOf(f, "on its way"), rootsOf(f, "on its way"))
	})
}

// Whichever nodes are wiped: what F + 1 that are no liars still have is not lost.
func TestEpochLostByWhoHasIt(t *testing.T) {
	for f := 1; f <= 2; f++ {
		for _, liars := range [][]int{nil, {1}, allOf(f)[2*f+1:]} {
			n := kept(t, f, nil, "whoever has it")
			n.Liars = slices.Clone(liars)
			roots := rootsOf(f, "whoever has it")
			for set := range 1 << (3*f + 1) {
				w, left := n, len(honestOf(n))
				for _, id := range placesOf(set) {
					w = impl.Wipe(w, id)
					if !slices.Contains(liars, id) {
						left--
					}
				}
				if left > f {
					checkLost(t, w, roots, nil)
				} else {
					checkLost(t, w, roots, roots)
				}
				checkHealthy(t, w, roots[0], left == len(honestOf(n)))
			}
		}
	}
}

// The document wants no right net of Lost, nor of Healthy: a node's number is its place, and a slot is the first of its root.
func TestEpochLooksAtAnyNet(t *testing.T) {
	all := longPieces(2, longEncode("any net", 2, 4))
	root := all[0].Root
	slot := func(p impl.Piece, done bool) []impl.Slot {
		return []impl.Slot{{Root: "short"}, {Root: root, Piece: p, Has: true, Done: done}, {Root: root}}
	}
	n := impl.Net{F: 1, Liars: []int{7, 2, 2, -1}, Nodes: []impl.Node{{Id: 9, Slots: slot(all[3], true)}, {Id: 9, Slots: slot(all[1], true)}, {}, {F: 3, Slots: slot(all[0], true)}}}
	for _, f := range append(slices.Clone(noFaults), 1, 2, 3) {
		n.F = f
		checkLost(t, n, []string{root, "short", "", root}, []string{"short", ""})
		checkHealthy(t, n, root, true)
		checkHealthy(t, n, "short", false)
		checkHealthy(t, otherNet(n, func(n *impl.Net) { n.Liars = nil }), root, false)
		for _, id := range []int{0, 1, 3} {
			checkHealthy(t, otherNet(n, func(n *impl.Net) { n.Nodes[id].Slots = slot(all[1], false) }), root, false)
			checkHealthy(t, otherNet(n, func(n *impl.Net) { n.Nodes[id].Slots[1].Has = false }), root, false)
			checkHealthy(t, otherNet(n, func(n *impl.Net) { n.Nodes[id].Slots = append([]impl.Slot{{Root: root}}, n.Nodes[id].Slots...) }), root, false)
		}
	}
	checkLost(t, impl.Net{}, []string{root, ""}, []string{root, ""})
	many := impl.Net{F: 1}
	for range 65 {
		many.Nodes = append(many.Nodes, impl.Node{Slots: slot(all[0], true)})
	}
	checkLost(t, many, []string{root}, []string{root}) // more pieces than Regain takes
	checkHealthy(t, many, root, true)
	eachLiars(func(f int, liars []int) {
		n := kept(t, f, liars, "no right net")
		for _, b := range slices.Concat(numberBreaches(n), nodeBreaches(n), otherBreaches(n)) {
			root := rootsOf(f, "no right net")[0]
			checkLost(t, b.net, []string{root, "no"}, longLost(b.net, []string{root, "no"}))
			checkHealthy(t, b.net, root, longHealthy(b.net, root))
		}
	})
}

// Where there is no node that is no liar, every such node is well.
func TestEpochHealthyOfNobody(t *testing.T) {
	checkHealthy(t, impl.Net{}, "", true)
	checkHealthy(t, impl.Net{F: 1, Liars: []int{0}, Nodes: []impl.Node{{F: 1}}}, impl.Leaf("any"), true)
}

// A root is well only behind all that is said of it: step by step, by what the nodes tell.
func TestEpochHealthyOnTheWay(t *testing.T) {
	eachLiars(func(f int, liars []int) {
		n, root := startedNet(t, f, liars), rootsOf(f, "on the way")[0]
		checkHealthy(t, n, root, false)
		n = does(t, n, opBring("on the way"))
		steps, well := 0, 0
		for ; len(n.Way) > 0; steps++ {
			checkHealthy(t, n, root, longHealthy(n, root))
			if longHealthy(n, root) {
				well++
			}
			n, _ = impl.NetDo(n, opHear(0))
		}
		checkHealthy(t, n, root, true)
		if len(liars) < f && well == 0 || well > steps/4 {
			t.Fatalf("F %d, liars %v: the root is well at %d of %d steps", f, liars, well, steps)
		}
		for _, none := range append(noTexts(), root+"\x00", root[:15], changed(root, 15, 1), rootsOf(f, "never brought")[0]) {
			checkHealthy(t, n, none, false)
		}
		checkHealthy(t, does(t, n, opBring("another")), root, true)
		checkHealthy(t, does(t, n, opBring("another")), rootsOf(f, "another")[0], false)
	})
}

// Each node alone that lost what it had, is not done, or has no piece; a liar that was wiped lacks nothing.
func TestEpochHealthyWithoutOne(t *testing.T) {
	eachLiars(func(f int, liars []int) {
		all := kept(t, f, nil, "well", "other")
		all.Liars = slices.Clone(liars)
		root := rootsOf(f, "well")[0]
		checkHealthy(t, all, root, true)
		for id := range all.Nodes {
			isLiar := slices.Contains(liars, id)
			checkHealthy(t, checkWipe(t, all, id), root, isLiar)
			for _, change := range []func(s *impl.Slot){
				func(s *impl.Slot) { s.Done, s.Readies = false, nil },
				func(s *impl.Slot) { s.Has, s.Echoed, s.Piece = false, false, impl.Piece{} },
				func(s *impl.Slot) { *s = impl.Slot{Root: root} },
			} {
				n := otherNet(all, func(n *impl.Net) { change(&n.Nodes[id].Slots[0]) })
				if !impl.NetOk(n) {
					t.Fatalf("NetOk(%s) is false", brief(n))
				}
				checkHealthy(t, n, root, isLiar)
				checkHealthy(t, n, rootsOf(f, "other")[0], true)
			}
		}
		for _, id := range honestOf(all) { // it has its pieces again, but is not done with them
			helped := drained(t, checkRepair(t, checkWipe(t, all, id), id, []string{root}, 1))
			checkHealthy(t, helped, root, false)
		}
	})
}

// drawnRoots are some of texts, some of them twice, and some of none.
func (d *drawer) drawnRoots(texts [][]impl.Say, count int) []string {
	roots := []string{}
	for range count {
		root := texts[d.below(len(texts))][0].Root
		if d.below(8) == 0 {
			root = []string{"", "no", impl.Leaf("none"), d.text(16)}[d.below(4)]
		}
		roots = append(roots, root)
	}
	return roots
}

// drawnCuttings are texts, bodies that tell none, and bodies that do not go together.
func (d *drawer) drawnCuttings(f int, count int) [][]impl.Say {
	texts := [][]impl.Say{}
	for range count {
		text := d.liedCutting(f)
		if d.below(4) == 0 {
			for to, p := range longPieces(f+1, longWhole(d.text(2*(f+1)), f+1, 3*f+1, 2)) {
				text[to] = impl.Say{Kind: 0, From: -1, To: to, Root: p.Root, Piece: p}
			}
		}
		texts = append(texts, text)
	}
	return texts
}

// wornNet draws a net whose nodes have most of their pieces of most texts. It is right more often than not.
func (d *drawer) wornNet(f int, texts [][]impl.Say) impl.Net {
	n := d.net(f, texts)
	if d.below(8) == 0 {
		return n
	}
	worn := d.below(len(texts))
	for id := range n.Nodes {
		n.Nodes[id].Slots = nil
		for _, place := range d.order(len(texts)) {
			slot := afresh(texts[place][id].Piece)
			slot.Readied, slot.Done = true, true
			if place >= worn && d.below(4) == 0 {
				continue
			}
			if place >= worn && d.below(4) == 0 {
				slot = impl.Slot{Root: slot.Root, Readied: d.below(2) == 0, Echoes: []int{d.below(3*f + 1)}}
			}
			n.Nodes[id].Slots = append(n.Nodes[id].Slots, slot)
		}
	}
	return n
}

func TestEpochAnyNet(t *testing.T) {
	d := drawer(174)
	right, wrong, counts, told := 0, 0, map[int]int{}, map[string]int{}
	for round := range 450 {
		f := 1 + round%3
		texts := d.drawnCuttings(f, 4)
		n := d.wornNet(f, texts)
		roots := d.drawnRoots(texts, d.below(8))
		if longNetOk(n) {
			right++
		} else {
			wrong++
		}
		for id := -1; id <= 3*f+1; id++ {
			checkWipe(t, n, id)
			_, count := longRepair(n, id, roots)
			checkRepair(t, n, id, roots, count)
			counts[count]++
		}
		g := 1 + d.below(3)
		if d.below(20) == 0 {
			g = d.below(7) - 1
		}
		liars := d.order(10)[:d.below(3)]
		slices.Sort(liars)
		_, there := checkMove(t, n, roots, g, liars)
		for _, root := range there {
			told["moved "+strconv.FormatBool(root != "")]++
		}
		checkLost(t, n, roots, longLost(n, roots))
		for _, root := range roots {
			checkHealthy(t, n, root, longHealthy(n, root))
			told["healthy "+strconv.FormatBool(longHealthy(n, root))]++
			told["lost "+strconv.FormatBool(len(impl.Lost(n, []string{root})) > 0)]++
		}
	}
	if right < 200 || wrong < 40 || counts[0] < 500 || counts[1] < 200 || counts[2] < 30 {
		t.Errorf("%d nets right, %d wrong, helped with so many: %v: the test has grown weak", right, wrong, counts)
	}
	if told["moved true"] < 100 || told["moved false"] < 100 || told["lost true"] < 300 || told["lost false"] < 300 || told["healthy true"] < 100 || told["healthy false"] < 300 {
		t.Errorf("%v: the test has grown weak", told)
	}
}

// Whatever the liars said on the way to it: a node that was wiped is helped to all its pieces that can be made, and what is told is handed over.
func TestEpochWhateverLiarsSay(t *testing.T) {
	d := drawer(175)
	had, handed, lost := 0, 0, 0
	for round := range 60 {
		f := 1 + round%3
		texts := d.drawnCuttings(f, 3)
		n := d.schemed(t, f, texts)
		roots := rootsOf(f, "brought by no liar")
		for _, text := range texts {
			roots = append(roots, text[0].Root)
		}
		id := honestOf(n)[d.below(len(honestOf(n)))]
		w := checkWipe(t, n, id)
		_, count := longRepair(w, id, roots)
		helped := drained(t, checkRepair(t, w, id, roots, count))
		checkAudit(t, w, "brought by no liar", "x", nil, withAll(n.Liars, id))
		checkAudit(t, helped, "brought by no liar", "x", nil, n.Liars)
		for _, root := range roots {
			if checkAllOrNone(t, n, root) && len(longNetPieces(n, root)) == len(honestOf(n)) {
				had++
				_, codes := impl.Remake(root, longNetPieces(n, root), id)
				if slot := longSlot(helped.Nodes[id], root); slot.Has != (codes == impl.GetOk) {
					t.Fatalf("node %d is helped to %s", id, brief(slot))
				}
			}
		}
		got, there := checkMove(t, w, roots, 1+d.below(3), nil)
		for i, root := range there {
			text, code := impl.NetGet(w, roots[i], nil)
			if (root == "") != (code != impl.GetOk) {
				t.Fatalf("root %d is %x there, its code was %d", i, root, code)
			}
			if root == "" {
				lost++
				continue
			}
			handed++
			checkGet(t, got, root, nil, text, impl.GetOk)
		}
	}
	if had < 60 || handed < 80 || lost < 40 {
		t.Errorf("%d roots were had by all, %d handed over, %d lost: the test has grown weak", had, handed, lost)
	}
}

func writeOverTexts(list []string) {
	for i := range list[:cap(list)] {
		list[:cap(list)][i] = "written over"
	}
}

func TestEpochWritesIntoNoArgument(t *testing.T) {
	d := drawer(176)
	for round := range 200 {
		f := 1 + round%3
		texts := d.drawnCuttings(f, 3)
		n, look := roomyNet(d.net(f, texts))
		roots, memoryRoots := roomyTexts(d.drawnRoots(texts, d.below(8)))
		liars, memoryLiars := withRoom([]int{0, 2}[:d.below(3)])
		kept, keptRoots, keptLiars := look(), slices.Clone(memoryRoots), slices.Clone(memoryLiars)
		for id := -1; id <= 3*f+1; id++ {
			writeOverNet(impl.Wipe(n, id))
			got, _ := impl.Repair(n, id, roots)
			writeOverNet(got)
			got, _ = impl.Repair(n, id, make([]string, 41))
			writeOverNet(got)
		}
		for g := range 5 {
			got, there, _ := impl.Move(n, roots, g, liars)
			writeOverNet(got)
			writeOverTexts(there)
		}
		writeOverTexts(impl.Lost(n, roots))
		for _, root := range roots {
			impl.Healthy(n, root)
		}
		if !sameNet(look(), kept) || !slices.Equal(memoryRoots, keptRoots) || !slices.Equal(memoryLiars, keptLiars) {
			t.Fatalf("an argument or the room behind it was written into: %s, %q, %v", brief(n), memoryRoots, memoryLiars)
		}
	}
}

// cloned are texts of memory of their own.
func cloned(list []string) []string {
	texts := []string{}
	for _, text := range list {
		texts = append(texts, strings.Clone(text))
	}
	return texts
}

func TestEpochAnswersAreNewMemory(t *testing.T) {
	d := drawer(177)
	for round := range 20 {
		f := 1 + round%2
		texts := d.drawnCuttings(f, 2)
		n := d.net(f, texts)
		if round%3 != 0 {
			n = does(t, kept(t, f, []int{1}, "one", "two"), opBring("on its way"))
		}
		roots := cloned(append(d.drawnRoots(texts, 3), rootsOf(f, "one", "two", "two")...))
		liars := []int{0}
		for id := -1; id <= 3*f+1; id++ {
			checkOwnNet(t, impl.Wipe(n, id), n)
			w := impl.Wipe(n, max(id, 0))
			for _, told := range [][]string{roots, nil, make([]string, 41)} {
				got, _ := impl.Repair(w, id, told)
				checkOwnNet(t, got, w)
				checkOwnTexts(t, textsOfNet(got), told)
				checkOwnSpans(t, spansOf(got), addSpan(nil, told))
			}
		}
		for _, g := range []int{0, 1, 2} {
			got, there, _ := impl.Move(n, roots, g, liars)
			checkOwnNet(t, got, n)
			checkOwnTexts(t, append(textsOfNet(got), there...), append(textsOfNet(n), roots...))
			checkOwnSpans(t, addSpan(spansOf(got), there), addSpan(addSpan(spansOf(n), roots), liars))
		}
		lost := impl.Lost(n, roots)
		checkOwnTexts(t, lost, append(textsOfNet(n), roots...))
		checkOwnSpans(t, addSpan(nil, lost), addSpan(spansOf(n), roots))
	}
	same := strings.Clone("told three times")
	checkOwnTexts(t, impl.Lost(impl.Net{}, []string{same, same, same}), []string{same})
}

// Lists that a net shares with itself are apart in what is answered.
func TestEpochListsThatAreShared(t *testing.T) {
	n, brought := sharingNet()
	for _, wrong := range []bool{false, true} {
		if wrong {
			n.Nodes[3].Id = 2
		}
		for id := -1; id <= 4; id++ {
			checkOwnNet(t, checkWipe(t, n, id), n)
			got, _ := impl.Repair(n, id, []string{brought[0].Root})
			checkOwnNet(t, got, n)
		}
	}
}

func TestEpochKeepsNothing(t *testing.T) {
	texts := []string{"one", "two"}
	roots := rootsOf(1, texts...)
	for range 3 {
		n := kept(t, 1, []int{3}, texts...)
		w := checkWipe(t, n, 1)
		got := checkRepair(t, w, 1, roots, 2)
		writeOverNet(got)
		checkRepair(t, w, 1, roots, 2)
		checkNoHelp(t, n, 1, roots)
		moved := checkMoved(t, n, roots, 2, []int{0}, texts)
		writeOverNet(moved)
		checkMoved(t, n, roots, 2, []int{0}, texts)
		checkMoved(t, n, roots[1:], 2, []int{0}, texts[1:])
		checkMove(t, startedNet(t, 1, nil), roots, 2, []int{0})
		writeOverTexts(impl.Lost(w, append(roots, "no")))
		checkLost(t, w, append(roots, "no"), []string{"no"})
		checkLost(t, startedNet(t, 1, nil), roots, roots)
		checkHealthy(t, n, roots[0], true)
		checkHealthy(t, w, roots[0], false)
	}
}
