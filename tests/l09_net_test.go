package tests

import (
	"cmp"
	"math"
	"slices"
	"strconv"
	"strings"
	"testing"
	"unsafe"

	"loop.example/g00210/impl"
)

func sameNet(a impl.Net, b impl.Net) bool {
	return a.F == b.F && slices.EqualFunc(a.Nodes, b.Nodes, sameNode) && slices.Equal(a.Liars, b.Liars) && slices.EqualFunc(a.Way, b.Way, sameSay)
}

func cloneSays(says []impl.Say) []impl.Say {
	list := []impl.Say{}
	for _, s := range says {
		s.Piece.Proof = slices.Clone(s.Piece.Proof)
		list = append(list, s)
	}
	return list
}

func cloneNet(n impl.Net) impl.Net {
	nodes := []impl.Node{}
	for _, node := range n.Nodes {
		nodes = append(nodes, cloneNode(node))
	}
	return impl.Net{F: n.F, Nodes: nodes, Liars: slices.Clone(n.Liars), Way: cloneSays(n.Way)}
}

// otherNet is n with a change made to a copy of it.
func otherNet(n impl.Net, change func(n *impl.Net)) impl.Net {
	n = cloneNet(n)
	change(&n)
	return n
}

// onWay is n with just these on their way.
func onWay(n impl.Net, says ...impl.Say) impl.Net {
	return otherNet(n, func(n *impl.Net) { n.Way = cloneSays(says) })
}

func opHear(at int) impl.NetOp {
	return impl.NetOp{Kind: 0, At: at}
}

func opTwice(at int) impl.NetOp {
	return impl.NetOp{Kind: 1, At: at}
}

func opLie(s impl.Say) impl.NetOp {
	return impl.NetOp{Kind: 2, Say: s}
}

func opBring(data string) impl.NetOp {
	return impl.NetOp{Kind: 3, Data: data}
}

// liarSets are all sets of at most f liars.
func liarSets(f int) [][]int {
	sets := [][]int{}
	for set := range 1 << (3*f + 1) {
		if liars := placesOf(set); len(liars) <= f {
			sets = append(sets, liars)
		}
	}
	return sets
}

// someLiars are liars of each number up to f, at the first seats, the last ones, and between.
func someLiars(f int) [][]int {
	sets := [][]int{nil}
	for count := 1; count <= f; count++ {
		first, last, between := []int{}, []int{}, []int{}
		for i := range count {
			first, last, between = append(first, i), append(last, 3*f+1-count+i), append(between, 1+2*i)
		}
		sets = append(sets, first, last, between)
	}
	return sets
}

// eachLiars sees nets of each F with some liars.
func eachLiars(see func(f int, liars []int)) {
	for f := 1; f <= 3; f++ {
		for _, liars := range someLiars(f) {
			see(f, liars)
		}
	}
}

// honestOf are the numbers of those who are no liars, whatever the net.
func honestOf(n impl.Net) []int {
	list := []int{}
	for id := range n.Nodes {
		if !slices.Contains(n.Liars, id) {
			list = append(list, id)
		}
	}
	return list
}

func startedNet(t *testing.T, f int, liars []int) impl.Net {
	t.Helper()
	want := impl.Net{F: f, Liars: liars}
	for id := range 3*f + 1 {
		want.Nodes = append(want.Nodes, impl.Node{Id: id, F: f})
	}
	n, ok := impl.NetStart(f, liars)
	if !ok || !sameNet(n, want) || !impl.NetOk(n) {
		t.Fatalf("NetStart(%d, %v) = %s, %v", f, liars, brief(n), ok)
	}
	return n
}

// longNetOk asks for one sentence of the document after the other, apart from the program.
func longNetOk(n impl.Net) bool {
	if n.F < 1 || n.F > 3 || len(n.Nodes) != 3*n.F+1 || len(n.Liars) > n.F || !longAscending(n.Liars, 3*n.F+1) || len(n.Way) > 3000 {
		return false
	}
	for id, node := range n.Nodes {
		if node.Id != id || node.F != n.F || !longNodeOk(node) {
			return false
		}
	}
	return true
}

// longDo is what must be made of an op at a net that is NetOk, and whether it is so. It writes into no list of the net, but shares some with it.
func longDo(n impl.Net, op impl.NetOp) (impl.Net, bool) {
	onWay := op.At >= 0 && op.At < len(n.Way)
	switch {
	case op.Kind == 0 && onWay:
		s, says := n.Way[op.At], []impl.Say{}
		if slices.Contains(honestOf(n), s.To) {
			n.Nodes = slices.Clone(n.Nodes)
			n.Nodes[s.To], says = longHear(n.Nodes[s.To], s)
		}
		n.Way = slices.Concat(n.Way[:op.At], n.Way[op.At+1:], says)
	case op.Kind == 1 && onWay:
		n.Way = slices.Concat(n.Way, n.Way[op.At:op.At+1])
	case op.Kind == 2 && slices.Contains(n.Liars, op.Say.From) && op.Say.To >= 0 && op.Say.To <= 3*n.F:
		n.Way = slices.Concat(n.Way, []impl.Say{op.Say})
	case op.Kind == 3 && len(op.Data) <= 2000:
		n.Way = slices.Concat(n.Way, longSays(op.Data, n.F))
	default:
		return n, false
	}
	return n, len(n.Way) <= 3000
}

// longNetDo is what NetDo must answer at any net, by the document's words, apart from the program.
func longNetDo(n impl.Net, op impl.NetOp) (impl.Net, bool) {
	if !longNetOk(n) {
		return n, false
	}
	if after, ok := longDo(n, op); ok {
		return after, true
	}
	return n, false
}

func longNetRun(n impl.Net, ops []impl.NetOp) impl.Net {
	if len(ops) > 300 {
		return n
	}
	for _, op := range ops {
		n, _ = longNetDo(n, op)
	}
	return n
}

// longNetDrain looks once whether the net is right: that it stays so is tested op by op.
func longNetDrain(n impl.Net) impl.Net {
	ok := longNetOk(n)
	for ok {
		var after impl.Net
		if after, ok = longDo(n, opHear(0)); ok {
			n = after
		}
	}
	return n
}

// longSlot is the zero value where there is none.
func longSlot(n impl.Node, root string) impl.Slot {
	for _, slot := range n.Slots {
		if slot.Root == root {
			return slot
		}
	}
	return impl.Slot{}
}

func longNetDone(n impl.Net, root string) []int {
	done := []int{}
	for _, id := range honestOf(n) {
		if longSlot(n.Nodes[id], root).Done {
			done = append(done, id)
		}
	}
	return done
}

func longNetPieces(n impl.Net, root string) []impl.Piece {
	pieces := []impl.Piece{}
	for _, id := range honestOf(n) {
		if slot := longSlot(n.Nodes[id], root); slot.Has {
			pieces = append(pieces, slot.Piece)
		}
	}
	return pieces
}

func longNetGet(n impl.Net, root string, lies []impl.Piece) (string, int) {
	if len(lies) > 40 {
		return "", impl.GetFew
	}
	pieces := []impl.Piece{}
	for _, p := range lies {
		if p.K == n.F+1 && p.N == 3*n.F+1 {
			pieces = append(pieces, p)
		}
	}
	text, code, _, _ := longGet(root, append(pieces, longNetPieces(n, root)...))
	return text, code
}

// doesAs wants an op that is so to make of a net what was reckoned apart, and the net to stay right.
func doesAs(t *testing.T, n impl.Net, op impl.NetOp, want impl.Net) impl.Net {
	t.Helper()
	got, ok := impl.NetDo(n, op)
	if !ok || !sameNet(got, want) || !impl.NetOk(got) {
		t.Fatalf("NetDo of kind %d at %d = %s with %s on the way, %v, want %s with %s on the way", op.Kind, op.At, brief(got.Nodes), brief(got.Way), ok, brief(want.Nodes), brief(want.Way))
	}
	return got
}

// does is an op that is so.
func does(t *testing.T, n impl.Net, op impl.NetOp) impl.Net {
	t.Helper()
	want, ok := longNetDo(n, op)
	if !ok {
		t.Fatalf("an op of kind %d at %d is not so", op.Kind, op.At)
	}
	return doesAs(t, n, op, want)
}

// notSo wants an op to be refused, and the net to be answered as it is.
func notSo(t *testing.T, n impl.Net, op impl.NetOp, why string) {
	t.Helper()
	kept := cloneNet(n)
	if got, ok := impl.NetDo(n, op); ok || !sameNet(got, kept) {
		t.Fatalf("%s: NetDo of kind %d at %d = %s, %v, want the net as it is", why, op.Kind, op.At, brief(got), ok)
	}
}

func drained(t *testing.T, n impl.Net) impl.Net {
	t.Helper()
	got := impl.NetDrain(n)
	if len(got.Way) != 0 || !impl.NetOk(got) {
		t.Fatalf("behind NetDrain %d are on the way, %s", len(got.Way), brief(got))
	}
	return got
}

func checkGet(t *testing.T, n impl.Net, root string, lies []impl.Piece, want string, wantCode int) {
	t.Helper()
	if got, code := impl.NetGet(n, root, lies); got != want || code != wantCode {
		t.Fatalf("NetGet with %d lies = %.60q, %d, want %.60q, %d; the lies are %s", len(lies), got, code, want, wantCode, brief(lies))
	}
}

func checkNetDone(t *testing.T, n impl.Net, root string, want []int) {
	t.Helper()
	if got := impl.NetDone(n, root); !slices.Equal(got, want) {
		t.Fatalf("NetDone = %v, want %v; the liars are %v", got, want, n.Liars)
	}
}

func checkNetPieces(t *testing.T, n impl.Net, root string, want []impl.Piece) {
	t.Helper()
	if got := impl.NetPieces(n, root); !slices.EqualFunc(got, want, samePiece) {
		t.Fatalf("NetPieces = %s, want %s; the liars are %v", brief(got), brief(want), n.Liars)
	}
}

// checkKept wants a text to be kept by all who are no liars.
func checkKept(t *testing.T, n impl.Net, data string) {
	t.Helper()
	all := longPieces(n.F+1, longEncode(data, n.F+1, 3*n.F+1))
	root, honest := all[0].Root, honestOf(n)
	checkNetDone(t, n, root, honest)
	checkNetPieces(t, n, root, pickPieces(all, honest))
	checkGet(t, n, root, nil, data, impl.GetOk)
}

func checkNotKept(t *testing.T, n impl.Net, root string) {
	t.Helper()
	checkNetDone(t, n, root, nil)
	checkNetPieces(t, n, root, nil)
	checkGet(t, n, root, nil, "", impl.GetFew)
}

// checkAllOrNone tells whether those who are no liars are done with a root.
func checkAllOrNone(t *testing.T, n impl.Net, root string) bool {
	t.Helper()
	done := impl.NetDone(n, root)
	if len(done) != 0 && !slices.Equal(done, honestOf(n)) {
		t.Fatalf("only %v are done with %x; the liars are %v", done, root, n.Liars)
	}
	return len(done) != 0
}

func TestNetNumbers(t *testing.T) {
	if impl.MaxWay != 3000 || impl.NetHear != 0 || impl.NetTwice != 1 || impl.NetLie != 2 || impl.NetBring != 3 {
		t.Errorf("the numbers are %d, %d, %d, %d, %d", impl.MaxWay, impl.NetHear, impl.NetTwice, impl.NetLie, impl.NetBring)
	}
}

func TestNetStarts(t *testing.T) {
	for f := 1; f <= 3; f++ {
		for _, liars := range liarSets(f) {
			n := startedNet(t, f, liars)
			for id, node := range n.Nodes {
				if want, _ := impl.NodeStart(id, f); !sameNode(node, want) {
					t.Fatalf("node %d of a new net is %s", id, brief(node))
				}
			}
		}
		startedNet(t, f, []int{})
	}
}

// notLiars are lists that are no liars of a net of that F.
func notLiars(f int) [][]int {
	last := 3 * f
	many := []int{}
	for id := range f + 1 {
		many = append(many, id)
	}
	lists := [][]int{many, {last - 3, last - 2, last - 1, last}, slices.Repeat([]int{1}, 100), {-1}, {-2}, {last + 1}, {last + 2}, {256}, {-256}, {1 << 32}, {math.MaxInt}, {math.MinInt}, {0, 0}, {1, 0}, {last, last}, {last, 0}, {-1, 0}, {0, last + 1}}
	if f == 3 {
		lists = append(lists, []int{0, 1, 1}, []int{0, 0, 1}, []int{0, 2, 1}, []int{2, 0, 1}, []int{3, 2, 1}, []int{0, 1, 10}, []int{-1, 0, 1}, []int{0, 1, 0})
	}
	return lists
}

func TestNetStartRefuses(t *testing.T) {
	checkNone := func(f int, liars []int) {
		t.Helper()
		if n, ok := impl.NetStart(f, liars); ok || !sameNet(n, impl.Net{}) {
			t.Errorf("NetStart(%d, %v) = %s, %v, want the zero value", f, liars, brief(n), ok)
		}
	}
	for _, f := range noFaults {
		for _, liars := range [][]int{nil, {}, {0}, {1}, {-1}, {0, 1}, {0, 1, 2, 3}, {f}, {3 * f}} {
			checkNone(f, liars)
		}
	}
	for f := 1; f <= 3; f++ {
		for _, liars := range notLiars(f) {
			checkNone(f, liars)
		}
	}
}

func TestNetBrings(t *testing.T) {
	d := drawer(140)
	eachLiars(func(f int, liars []int) {
		n := startedNet(t, f, liars)
		way := []impl.Say{}
		for _, data := range []string{"ab", "", "ab", d.text(50), d.text(1999), d.text(2000)} {
			said, _, ok := impl.Bring(data, f)
			way = append(way, longSays(data, f)...)
			n = doesAs(t, n, opBring(data), onWay(n, way...))
			if !ok || !slices.EqualFunc(n.Way[len(n.Way)-len(said):], said, sameSay) {
				t.Fatalf("behind the way is %s, want %s", brief(n.Way), brief(said))
			}
		}
		for _, node := range n.Nodes {
			if len(node.Slots) != 0 {
				t.Fatalf("nothing is heard yet, but node %d has %s", node.Id, brief(node.Slots))
			}
		}
	})
}

// Each piece at its place on the way: who is no liar has it then and echoes it to all, behind the way; a liar hears nothing.
func TestNetHearsEach(t *testing.T) {
	eachLiars(func(f int, liars []int) {
		n := does(t, startedNet(t, f, liars), opBring("heard by each"))
		brought := longSays("heard by each", f)
		root := brought[0].Root
		for at := range 3*f + 1 {
			want := otherNet(n, func(n *impl.Net) {
				n.Way = slices.Delete(n.Way, at, at+1)
				if !slices.Contains(liars, at) {
					n.Nodes[at].Slots = []impl.Slot{{Root: root, Piece: brought[at].Piece, Has: true, Echoed: true}}
					n.Way = append(n.Way, toAll(impl.SayEcho, at, f, root)...)
				}
			})
			after := doesAs(t, n, opHear(at), want)
			for _, next := range []int{0, 3*f - 1, len(after.Way) - 1} {
				does(t, after, opHear(next))
			}
		}
	})
}

// An op goes by what its kind asks for; what else stands in it is not looked at.
func TestNetOpOfItsKind(t *testing.T) {
	n := does(t, startedNet(t, 1, []int{2}), opBring("of its kind"))
	lie := echoOf(2, 0, impl.Leaf("a lie"))
	for _, op := range []impl.NetOp{
		{Kind: 0, At: 1, Say: lie, Data: strings.Repeat("x", 2001)},
		{Kind: 1, At: 3, Say: otherSay(lie, func(s *impl.Say) { s.From = 9 }), Data: "more"},
		{Kind: 2, At: -1, Say: lie, Data: strings.Repeat("x", 2001)},
		{Kind: 3, At: 99, Say: impl.Say{From: 1, To: -5}, Data: "more"},
	} {
		does(t, n, op)
	}
	doesAs(t, n, impl.NetOp{}, does(t, n, opHear(0)))
}

func TestNetTwice(t *testing.T) {
	eachLiars(func(f int, liars []int) {
		n := does(t, startedNet(t, f, liars), opBring("once more"))
		n = does(t, n, opHear(f))
		for at := range n.Way {
			want := otherNet(n, func(n *impl.Net) { n.Way = append(n.Way, n.Way[at]) })
			after := doesAs(t, n, opTwice(at), want)
			again := doesAs(t, after, opTwice(len(after.Way)-1), onWay(after, append(want.Way, want.Way[at])...))
			if len(again.Way) != len(n.Way)+2 {
				t.Fatalf("twice and once more: %d on the way, of %d", len(again.Way), len(n.Way))
			}
		}
	})
}

// lieTexts are sayings of which a liar may say any: the net does not look at what it says.
func lieTexts(f int) []impl.Say {
	brought := longSays("what a liar says", f)
	root := brought[0].Root
	list := []impl.Say{{Kind: 1, Root: root}, {Kind: 2, Root: root}, brought[0], brought[3*f], {}, {Kind: -1}, {Kind: 3, Root: root}, {Kind: 77, Root: "short"}, {Kind: math.MaxInt, Root: strings.Repeat("long", 1000)}}
	for _, p := range notItsPieces(0, f, "what a liar says") {
		list = append(list, impl.Say{Kind: 0, Root: root, Piece: p}, impl.Say{Kind: 1, Root: p.Root, Piece: p})
	}
	return list
}

func TestNetLies(t *testing.T) {
	eachLiars(func(f int, liars []int) {
		n := does(t, startedNet(t, f, liars), opBring("the truth"))
		for i, s := range lieTexts(f) {
			for _, from := range liars {
				for to := range 3*f + 1 {
					if i > 3 && to != from && to != 2*f {
						continue
					}
					s.From, s.To = from, to
					after := doesAs(t, n, opLie(s), onWay(n, append(longSays("the truth", f), s)...))
					does(t, after, opHear(3*f+1))
				}
			}
		}
	})
}

func TestNetLieRefuses(t *testing.T) {
	eachLiars(func(f int, liars []int) {
		n := does(t, startedNet(t, f, liars), opBring("the truth"))
		for _, s := range lieTexts(f)[:6] {
			for _, to := range []int{0, 1, 3 * f} {
				s.To = to
				for _, from := range append(honestOf(n), -1, -2, 3*f+1, 10, 256, -256, 1<<32, 1<<32+1, math.MaxInt, math.MinInt) {
					notSo(t, n, opLie(otherSay(s, func(s *impl.Say) { s.From = from })), "a lie from who is no liar")
				}
			}
			for _, from := range liars {
				s.From = from
				for _, to := range []int{-1, -2, 3*f + 1, 3*f + 2, 256, 256 + from, -256, 1 << 32, 1<<32 + from, math.MaxInt, math.MinInt} {
					notSo(t, n, opLie(otherSay(s, func(s *impl.Say) { s.To = to })), "a lie to no node")
				}
			}
		}
	})
}

func TestNetDoRefuses(t *testing.T) {
	eachLiars(func(f int, liars []int) {
		brought := does(t, startedNet(t, f, liars), opBring("the truth"))
		for _, n := range []impl.Net{startedNet(t, f, liars), brought, does(t, brought, opHear(1))} {
			for _, kind := range []int{-1, -2, 4, 5, 256, 257, -256, 1 << 32, 1<<32 + 3, math.MaxInt, math.MinInt, math.MinInt + 3} {
				op := impl.NetOp{Kind: kind, Data: "ab", Say: impl.Say{From: slices.Max(append(liars, 0))}}
				notSo(t, n, op, "no such kind")
			}
			end := len(n.Way)
			for _, at := range []int{-1, -2, -end - 1, end, end + 1, end + 256, 1 << 32, 1<<32 + 1, -(1 << 32), math.MaxInt, math.MinInt, math.MinInt + 1} {
				notSo(t, n, opHear(at), "nothing is there to be heard")
				notSo(t, n, opTwice(at), "nothing is there to be heard twice")
			}
			for _, size := range []int{2001, 2002, 4000, 65536, 65536 + 2} {
				notSo(t, n, opBring(strings.Repeat("x", size)), "a text that is too long")
			}
			does(t, n, opBring(strings.Repeat("x", 2000)))
		}
	})
}

// To a liar, or to nobody: it goes from the way, and nobody hears it.
func TestNetUnheard(t *testing.T) {
	eachLiars(func(f int, liars []int) {
		brought := longSays("unheard", f)
		n := startedNet(t, f, liars)
		nobody := []int{-1, -2, 3*f + 1, 3*f + 2, 10, 256, -256, 1 << 32, 1<<32 + 1, math.MaxInt, math.MinInt}
		for _, to := range append(nobody, liars...) {
			says := []impl.Say{brought[0], echoOf(1, to, brought[0].Root), readyOf(2, to, brought[0].Root), {Kind: 9, To: to}}
			if slices.Contains(liars, to) {
				says = append(says, brought[to])
			}
			for _, s := range says {
				s.To = to
				way := onWay(n, brought[1], s, brought[2])
				doesAs(t, way, opHear(1), onWay(n, brought[1], brought[2]))
				doesAs(t, onWay(n, s), opHear(0), n)
				if got := impl.NetDrain(onWay(n, s, s, s)); !sameNet(got, n) {
					t.Fatalf("NetDrain of a saying to %d = %s", to, brief(got))
				}
			}
		}
	})
}

// From no node, of no kind, of no root: the node hears it and makes nothing of it.
func TestNetHeardForNothing(t *testing.T) {
	eachLiars(func(f int, liars []int) {
		n := startedNet(t, f, liars)
		root := impl.Leaf("for nothing")
		for _, to := range honestOf(n) {
			for _, from := range []int{-2, -3, 3*f + 1, 256, math.MaxInt, math.MinInt} {
				doesAs(t, onWay(n, echoOf(from, to, root)), opHear(0), n)
				doesAs(t, onWay(n, readyOf(from, to, root), echoOf(from, to, root)), opHear(1), onWay(n, readyOf(from, to, root)))
			}
			for _, s := range []impl.Say{{Kind: 3, To: to, Root: root}, {Kind: -1, To: to, Root: root}, {Kind: 1, To: to}, {Kind: 2, To: to, Root: root[:15]}} {
				doesAs(t, onWay(n, s), opHear(0), n)
			}
		}
	})
}

func TestNetKeepsWhatIsBrought(t *testing.T) {
	d := drawer(141)
	for f := 1; f <= 3; f++ {
		for _, liars := range liarSets(f) {
			data := d.text(d.below(30))
			n, ok := impl.NetDo(startedNet(t, f, liars), opBring(data))
			if !ok {
				t.Fatalf("NetBring of %q is refused", data)
			}
			checkNotKept(t, n, longSays(data, f)[0].Root)
			n = drained(t, n)
			checkKept(t, n, data)
			for _, id := range liars {
				if len(n.Nodes[id].Slots) != 0 {
					t.Fatalf("liar %d heard something: %s", id, brief(n.Nodes[id]))
				}
			}
		}
		for _, data := range []string{"", "a", strings.Repeat("\x00", 100), d.text(1999), d.text(2000)} {
			checkKept(t, drained(t, does(t, startedNet(t, f, []int{f}), opBring(data))), data)
		}
	}
}

// Without liars each node hears its piece, an echo of each, and a ready of each, no more.
func TestNetDrainIsHearingTheFirst(t *testing.T) {
	eachLiars(func(f int, liars []int) {
		n := does(t, startedNet(t, f, liars), opBring("first of all"))
		want, count := n, 0
		for ; len(want.Way) > 0; count++ {
			want = does(t, want, opHear(0))
		}
		if got := impl.NetDrain(n); !sameNet(got, want) {
			t.Fatalf("NetDrain = %s, want %s", brief(got), brief(want))
		}
		nodes, honest := 3*f+1, 3*f+1-len(liars)
		if count != nodes+2*honest*nodes {
			t.Fatalf("F %d, liars %v: %d were heard", f, liars, count)
		}
		if got := impl.NetDrain(want); !sameNet(got, want) {
			t.Fatalf("NetDrain of a drained net = %s, want %s", brief(got), brief(want))
		}
	})
}

// slotsByRoot puts the slots of all nodes into an order that does not hang on when they began.
func slotsByRoot(n impl.Net) impl.Net {
	return otherNet(n, func(n *impl.Net) {
		for _, node := range n.Nodes {
			slices.SortFunc(node.Slots, func(a impl.Slot, b impl.Slot) int { return cmp.Compare(a.Root, b.Root) })
		}
	})
}

// In whatever order, and with whatever heard twice, all are behind it as they are when the first is heard each time.
func TestNetInAnyOrder(t *testing.T) {
	d := drawer(142)
	eachLiars(func(f int, liars []int) {
		start := startedNet(t, f, liars)
		for _, data := range []string{"one", "two"} {
			start, _ = impl.NetDo(start, opBring(data))
		}
		want := slotsByRoot(drained(t, start))
		for range 4 {
			n, twice := start, 0
			for len(n.Way) > 0 {
				op := opHear(d.below(len(n.Way)))
				if twice < 30 && d.below(4) == 0 {
					op.Kind = impl.NetTwice
					twice++
				}
				after, ok := impl.NetDo(n, op)
				if !ok {
					t.Fatalf("an op of kind %d is refused", op.Kind)
				}
				n = after
			}
			if !sameNet(slotsByRoot(n), want) {
				t.Fatalf("heard in another order: %s, want %s", brief(n), brief(want))
			}
			checkKept(t, n, "one")
			checkKept(t, n, "two")
		}
	})
}

func TestNetSeveralTexts(t *testing.T) {
	eachLiars(func(f int, liars []int) {
		n := startedNet(t, f, liars)
		texts := []string{"first", "second", "third", "", "first"}
		for i, data := range texts {
			n = drained(t, does(t, n, opBring(data)))
			for _, old := range texts[:i+1] {
				checkKept(t, n, old)
			}
			for _, id := range honestOf(n) {
				if count := len(n.Nodes[id].Slots); count != min(i+1, 4) {
					t.Fatalf("node %d has %d slots behind %d texts", id, count, i+1)
				}
			}
		}
		for _, root := range append(noSums(), impl.Leaf("none"), strings.Repeat("\x00", 16), changed(longSays("first", f)[0].Root, 15, 1)) {
			checkNotKept(t, n, root)
		}
	})
}

// drawnOps are ops of which some are refused.
func (d *drawer) drawnOps(n impl.Net, texts [][]impl.Say, count int) []impl.NetOp {
	ops := []impl.NetOp{}
	for range count {
		ops = append(ops, d.op(n, texts))
	}
	return ops
}

// op draws what may be done to a net: most of it is so.
func (d *drawer) op(n impl.Net, texts [][]impl.Say) impl.NetOp {
	op := impl.NetOp{Kind: []int{0, 0, 0, 0, 0, 1, 2, 2, 3}[d.below(9)], At: d.below(len(n.Way) + 2), Data: d.text(d.below(4))}
	op.Say = d.saying(impl.Node{Id: d.below(3*n.F + 1), F: n.F}, texts)
	if len(n.Liars) > 0 && d.below(6) != 0 {
		op.Say.From = n.Liars[d.below(len(n.Liars))]
	}
	switch d.below(30) {
	case 0:
		op.Kind = d.below(8) - 2
	case 1:
		op.At = -1
	case 2:
		op.Data = strings.Repeat("x", 2000+d.below(2))
	}
	return op
}

func TestNetRunIsNetDoOfEach(t *testing.T) {
	d := drawer(143)
	eachLiars(func(f int, liars []int) {
		texts := d.brought(f, 2)
		n := startedNet(t, f, liars)
		for _, text := range texts {
			n.Way = append(n.Way, text...)
		}
		refused := 0
		for _, count := range []int{0, 1, 2, 20, 60} {
			ops := d.drawnOps(n, texts, count)
			want := n
			for _, op := range ops {
				after, ok := impl.NetDo(want, op)
				if want = after; !ok {
					refused++
				}
			}
			if got := impl.NetRun(n, ops); !sameNet(got, want) || !impl.NetOk(got) {
				t.Fatalf("NetRun of %d ops = %s, want %s", count, brief(got), brief(want))
			}
		}
		if refused == 0 || refused > 70 {
			t.Errorf("%d of 83 ops were refused: the test has grown weak", refused)
		}
	})
}

func TestNetRunUpToTheLimit(t *testing.T) {
	for f := 1; f <= 3; f++ {
		n := does(t, startedNet(t, f, []int{0}), opBring("up to the limit"))
		ops := slices.Repeat([]impl.NetOp{opTwice(2)}, 300)
		got := impl.NetRun(n, ops)
		if len(got.Way) != 3*f+1+300 || !sameSay(got.Way[3*f+300], n.Way[2]) || !sameNet(got, longNetRun(n, ops)) {
			t.Fatalf("NetRun of 300 ops: %d on the way", len(got.Way))
		}
		for _, more := range [][]impl.NetOp{append(ops, opTwice(2)), append(slices.Clone(ops), impl.NetOp{Kind: 9}), make([]impl.NetOp, 301), make([]impl.NetOp, 5000)} {
			if got := impl.NetRun(n, more); !sameNet(got, n) {
				t.Fatalf("NetRun of %d ops = %s, want the net as it is", len(more), brief(got))
			}
		}
		if got := impl.NetRun(n, slices.Repeat([]impl.NetOp{{Kind: 9}}, 300)); !sameNet(got, n) {
			t.Fatalf("NetRun of 300 ops that are not so = %s", brief(got))
		}
		heard := impl.NetRun(n, make([]impl.NetOp, 300)) // each is NetHear of the first
		if f < 3 && !sameNet(heard, drained(t, n)) || !sameNet(heard, longNetRun(n, make([]impl.NetOp, 300))) {
			t.Fatalf("NetRun of 300 times hearing the first = %s", brief(heard))
		}
	}
}

// filled is n with that many on the way, all of them for nothing, the last ones these.
func filled(n impl.Net, count int, last ...impl.Say) impl.Net {
	return otherNet(n, func(n *impl.Net) {
		for i := range count - len(last) {
			n.Way = append(n.Way, impl.Say{Kind: 5 + i, From: i, To: i % 20, Root: "full"})
		}
		n.Way = append(n.Way, last...)
	})
}

func TestNetWayUpToTheLimit(t *testing.T) {
	eachLiars(func(f int, liars []int) {
		n, nodes := startedNet(t, f, liars), 3*f+1
		for _, liar := range append(liars, -1) {
			lie := opLie(readyOf(liar, 0, impl.Leaf("a lie")))
			if liar >= 0 {
				doesAs(t, filled(n, 2999), lie, filled(n, 3000, lie.Say))
			}
			notSo(t, filled(n, 3000), lie, "a lie on a full way")
		}
		last := filled(n, 2999)
		for _, at := range []int{0, 1500, 2998} {
			doesAs(t, last, opTwice(at), onWay(n, append(last.Way, last.Way[at])...))
			notSo(t, filled(n, 3000), opTwice(at), "twice on a full way")
		}
		notSo(t, filled(n, 3000), opTwice(2999), "twice on a full way")
		notSo(t, last, opTwice(2999), "twice at the end of the way")
		brought := longSays("brought", f)
		doesAs(t, filled(n, 3000-nodes), opBring("brought"), filled(n, 3000, brought...))
		doesAs(t, filled(n, 2999-nodes), opBring("brought"), filled(n, 2999, brought...))
		for _, count := range []int{3000 - nodes + 1, 3000 - nodes + 2, 2999, 3000} {
			notSo(t, filled(n, count), opBring("brought"), "too much on the way")
		}
	})
}

// What is heard makes room for one: with what is said then there are at most MaxWay.
func TestNetHearsUpToTheLimit(t *testing.T) {
	eachLiars(func(f int, liars []int) {
		n, nodes := startedNet(t, f, liars), 3*f+1
		brought, id := longSays("heard", f), honestOf(startedNet(t, f, liars))[f]
		piece := brought[id]
		want, echoes := longHear(n.Nodes[id], piece)
		for _, count := range []int{3000 - nodes, 3000 - nodes + 1} {
			after := filled(n, count-1)
			after.Nodes[id], after.Way = want, append(after.Way, echoes...)
			doesAs(t, filled(n, count, piece), opHear(count-1), after)
		}
		for _, count := range []int{3000 - nodes + 2, 3000 - nodes + 3, 2999, 3000} {
			full := filled(n, count, piece)
			notSo(t, full, opHear(count-1), "no room for what is said then")
			does(t, full, opHear(0)) // says nothing
			first := onWay(full, append([]impl.Say{piece}, filled(n, count-1).Way...)...)
			notSo(t, first, opHear(0), "no room for what is said then")
			if got := impl.NetDrain(first); !sameNet(got, first) {
				t.Fatalf("NetDrain with no room for what is said first: %d on the way", len(got.Way))
			}
			ops := []impl.NetOp{opHear(0), opHear(1), opHear(0)} // the second makes room for one more
			if got, want := impl.NetRun(first, ops), longNetRun(first, ops); !sameNet(got, want) {
				t.Fatalf("NetRun with no room for what is said first: %d on the way, want %d", len(got.Way), len(want.Way))
			}
			next := onWay(full, append([]impl.Say{{Kind: 9}, piece}, filled(n, count-2).Way...)...)
			if len(liars) > 0 && count < 2999 { // drained to the end, which takes long to reckon
				continue
			}
			if got, want := impl.NetDrain(next), longNetDrain(next); !sameNet(got, want) {
				t.Fatalf("NetDrain of %d, the second a piece: %d on the way, want %d", count, len(got.Way), len(want.Way))
			}
		}
		if got := impl.NetDrain(filled(n, 3000)); !sameNet(got, n) {
			t.Fatalf("NetDrain of a full way: %d on the way", len(got.Way))
		}
	})
}

// A node that has a slot already stays as it is, too, when there is no room for what it would say.
func TestNetStaysWhereThereIsNoRoom(t *testing.T) {
	eachLiars(func(f int, liars []int) {
		brought, n := longSays("no room", f), startedNet(t, f, liars)
		root, id := brought[0].Root, honestOf(n)[0]
		n.Nodes[id], _ = hearAll(t, n.Nodes[id], nearly(id, f, root))
		for _, s := range []impl.Say{brought[id], echoOf(3*f, id, root), readyOf(3*f, id, root)} {
			full := filled(n, 3000, s)
			notSo(t, full, opHear(2999), "no room for what is said then")
			got := impl.NetRun(full, []impl.NetOp{opHear(2999), opHear(2999), opHear(0)})
			if want := onWay(n, full.Way[1:]...); !sameNet(got, want) {
				t.Fatalf("a saying of kind %d that has no room is heard: %s", s.Kind, brief(got.Nodes[id]))
			}
			first := onWay(n, append([]impl.Say{s}, full.Way[:2999]...)...)
			if got := impl.NetDrain(first); !sameNet(got, first) {
				t.Fatalf("NetDrain hears a saying of kind %d that has no room: %s", s.Kind, brief(got.Nodes[id]))
			}
		}
	})
}

// Many texts at once have no room for all that is said of them: the net is drained as far as it goes, and stays right.
func TestNetDrainsAsFarAsThereIsRoom(t *testing.T) {
	n := startedNet(t, 3, []int{2})
	for i := range 40 {
		n, _ = impl.NetDo(n, opBring("text "+strconv.Itoa(i)))
	}
	got, want := impl.NetDrain(n), longNetDrain(n)
	if !sameNet(got, want) || len(got.Way) < 2990 || !impl.NetOk(got) {
		t.Fatalf("NetDrain of 40 texts: %d on the way, want %d", len(got.Way), len(want.Way))
	}
}

// MaxSlots texts, eight at a time, which have room: all are kept by all, and of one more nobody hears.
func TestNetUpToMaxSlots(t *testing.T) {
	for f := 1; f <= 3; f++ {
		n := startedNet(t, f, nil)
		texts := []string{}
		for i := range 40 {
			texts = append(texts, "slot "+strconv.Itoa(i))
		}
		for from := 0; from < 40; from += 8 {
			for _, data := range texts[from : from+8] {
				n, _ = impl.NetDo(n, opBring(data))
			}
			n = drained(t, n)
		}
		for _, data := range texts {
			checkKept(t, n, data)
		}
		more := drained(t, does(t, n, opBring("one more")))
		if !sameNet(more, n) {
			t.Fatalf("F %d: a text behind MaxSlots is heard", f)
		}
		checkNotKept(t, more, longSays("one more", f)[0].Root)
		if again := drained(t, does(t, n, opBring(texts[39]))); !sameNet(again, n) {
			t.Fatalf("F %d: a text that is kept is heard anew", f)
		}
	}
}

// One node alone has MaxSlots slots: the others are done with a new root without it.
func TestNetOneNodeIsFull(t *testing.T) {
	for f := 1; f <= 3; f++ {
		n := startedNet(t, f, []int{0})
		n.Nodes[2] = fullNode(t, 2, f, 40)
		n = drained(t, does(t, n, opBring("new to all")))
		root, others := longSays("new to all", f)[0].Root, []int{}
		for _, id := range honestOf(n) {
			if id != 2 {
				others = append(others, id)
			}
		}
		if f > 1 { // of F 1 the two others are too few
			checkNetDone(t, n, root, others)
		} else {
			checkNetDone(t, n, root, nil)
		}
		if !sameNode(n.Nodes[2], fullNode(t, 2, f, 40)) || len(impl.NetPieces(n, root)) != len(others) {
			t.Fatalf("a full node hears of a new root: %s", brief(n.Nodes[2]))
		}
		checkGet(t, n, root, nil, "new to all", impl.GetOk)
	}
}

// For each set of those to whom one liar of four says a piece, an echo and a ready: all are done or none is.
func TestNetEachLieOfOneLiar(t *testing.T) {
	brought := longSays("given to some", 1)
	root, done := brought[0].Root, 0
	for liar := range 4 {
		start := startedNet(t, 1, []int{liar})
		honest := honestOf(start)
		for set := range 1 << 9 {
			n := cloneNet(start)
			for _, bit := range placesOf(set) {
				to := honest[bit%3]
				lie := []impl.Say{brought[to], echoOf(liar, to, root), readyOf(liar, to, root)}[bit/3]
				lie.From = liar
				n.Way = append(n.Way, lie)
			}
			got := drained(t, n)
			if set%8 == 0 && !sameNet(got, longNetDrain(n)) {
				t.Fatalf("the lies %b of %d: %s", set, liar, brief(got))
			}
			if !checkAllOrNone(t, got, root) {
				continue
			}
			done++
			checkGet(t, got, root, nil, "given to some", impl.GetOk)
			for to := range brought {
				checkGet(t, got, root, []impl.Piece{brought[to].Piece}, "given to some", impl.GetOk)
			}
		}
	}
	if done < 100 || done > 1900 {
		t.Errorf("%d of 2048 nets are done with the root: the test has grown weak", done)
	}
}

// scheme is what liars make of roots of their own, ahead of all else on the way.
func (d *drawer) scheme(n impl.Net, texts [][]impl.Say) []impl.Say {
	lies := []impl.Say{}
	for _, text := range texts {
		eager := 1 + d.below(8)
		for to := range 3*n.F + 1 {
			for i, liar := range n.Liars {
				for kind := range 3 {
					s := impl.Say{Kind: kind, From: liar, To: to, Root: text[0].Root}
					if kind == 0 && i == 0 {
						s.Piece = text[to].Piece
					}
					if d.below(8) < eager && (kind != 0 || i == 0) {
						lies = append(lies, s)
					}
				}
			}
		}
	}
	mixed := []impl.Say{}
	for _, at := range d.order(len(lies)) {
		mixed = append(mixed, lies[at])
	}
	return mixed
}

// drawnEnd hears all in a drawn order, some of it twice, with lies between.
func (d *drawer) drawnEnd(t *testing.T, n impl.Net, texts [][]impl.Say) impl.Net {
	t.Helper()
	for range 20 {
		n = impl.NetRun(n, d.drawnOps(n, texts, 3))
	}
	for len(n.Way) > 0 {
		ops := []impl.NetOp{}
		for i := range min(len(n.Way), 300) {
			ops = append(ops, opHear(d.below(len(n.Way)-i)))
		}
		n = impl.NetRun(n, ops)
	}
	return n
}

// liedCutting is a text's pieces, or bodies that do not go together, bound by a liar.
func (d *drawer) liedCutting(f int) []impl.Say {
	bodies := longEncode(d.text(d.below(20)), f+1, 3*f+1)
	if d.below(3) == 0 {
		bodies = withTextAt(bodies, d.below(3*f+1), d.text(len(bodies[0])))
	}
	says := []impl.Say{}
	for to, p := range longPieces(f+1, bodies) {
		says = append(says, impl.Say{Kind: 0, From: -1, To: to, Root: p.Root, Piece: p})
	}
	return says
}

// lies draws up to 40 pieces: those of the root, and others that do not check in the place of one of these.
func (d *drawer) lies(of []impl.Say, texts [][]impl.Say) []impl.Piece {
	list := []impl.Piece{}
	for range d.below(41) {
		from := of
		if d.below(2) == 0 {
			from = texts[d.below(len(texts))]
		}
		p := from[d.below(len(from))].Piece
		switch d.below(5) {
		case 0:
			p = d.spoilt(p)
		case 1:
			p = otherPiece(p, func(p *impl.Piece) { p.Root = of[0].Root })
		case 2:
			p = impl.Piece{Root: of[0].Root, K: p.K - 1 + d.below(3), N: p.N, Index: p.Index, Body: d.text(len(p.Body)), Proof: p.Proof}
		}
		list = append(list, p)
	}
	return list
}

// Whatever F liars and fewer say, in whatever order it is heard: all who are no liars are done with a root or none is, and what is got of it stays the same.
func TestNetWhateverLiarsSay(t *testing.T) {
	d := drawer(144)
	counts := map[string]int{}
	for round := range 240 {
		f := 1 + round%3
		liars := d.order(3*f + 1)[:d.below(f+1)]
		slices.Sort(liars)
		texts := [][]impl.Say{d.liedCutting(f), d.liedCutting(f), d.liedCutting(f)}
		n := startedNet(t, f, liars)
		n.Way = d.scheme(n, texts)
		n = does(t, n, opBring("brought by no liar"))
		n = d.drawnEnd(t, n, texts)
		if len(n.Way) != 0 || !impl.NetOk(n) {
			t.Fatalf("behind it all %d are on the way", len(n.Way))
		}
		checkKept(t, n, "brought by no liar")
		for _, text := range append(texts, longSays("brought by no liar", f)) {
			root := text[0].Root
			if !checkAllOrNone(t, n, root) {
				counts["none"]++
				continue
			}
			want, wantCode := impl.NetGet(n, root, nil)
			counts["code "+strconv.Itoa(wantCode)]++
			for range 6 {
				checkGet(t, n, root, d.lies(text, texts), want, wantCode)
			}
		}
	}
	if counts["none"] < 50 || counts["code 0"] < 260 || counts["code 2"] < 20 || counts["code 1"] != 0 {
		t.Errorf("%v: the test has grown weak, or a root is done that is not to be got", counts)
	}
}

func TestNetGetUpToTheLimit(t *testing.T) {
	eachLiars(func(f int, liars []int) {
		data := "forty lies and no more"
		all := longPieces(f+1, longEncode(data, f+1, 3*f+1))
		root := all[0].Root
		n := drained(t, does(t, startedNet(t, f, liars), opBring(data)))
		spoiltPiece := otherPiece(all[0], func(p *impl.Piece) { p.Body += "x" })
		for _, lie := range []impl.Piece{{}, spoiltPiece, all[0], all[3*f], otherPiece(all[1], func(p *impl.Piece) { p.K++ })} {
			for _, count := range []int{1, 39, 40} {
				checkGet(t, n, root, slices.Repeat([]impl.Piece{lie}, count), data, impl.GetOk)
			}
			for _, count := range []int{41, 42, 64, 65, 296, 1000} {
				checkGet(t, n, root, slices.Repeat([]impl.Piece{lie}, count), "", impl.GetFew)
			}
		}
		empty := startedNet(t, f, liars)
		forty := append(slices.Repeat([]impl.Piece{spoiltPiece}, 40-f-1), all[2*f:]...)
		checkGet(t, empty, root, forty, data, impl.GetOk) // lies that are the truth are enough
		checkGet(t, empty, root, append(forty, impl.Piece{}), "", impl.GetFew)
		checkGet(t, empty, root, forty[:39], "", impl.GetFew)
	})
}

// Pieces of a K or an N that is not the net's check under a root that a liar bound. Ahead of the pieces that count they must not tell K and N.
func TestNetGetLeavesOutOtherNumbers(t *testing.T) {
	bodies := longEncode("numbers that lie", 2, 4)
	byK := bound([]impl.Piece{{K: 2, N: 4, Index: 0, Body: bodies[0]}, {K: 2, N: 4, Index: 1, Body: bodies[1]}, {K: 3, N: 4, Index: 2, Body: bodies[2]}, {K: 2, N: 4, Index: 3, Body: bodies[3]}})
	byN := bound([]impl.Piece{{K: 2, N: 4, Index: 0, Body: bodies[0]}, {K: 2, N: 4, Index: 1, Body: bodies[1]}, {K: 2, N: 3, Index: 2, Body: bodies[2]}})
	for _, pieces := range [][]impl.Piece{byK, byN} {
		root, lie := pieces[0].Root, pieces[2]
		if _, code := impl.Regain(root, []impl.Piece{lie, pieces[0], pieces[1]}); code != impl.GetFew {
			t.Fatalf("with the lie ahead the pieces are not too few: %d", code)
		}
		n := startedNet(t, 1, []int{3})
		for to := range 3 {
			n = does(t, n, opLie(impl.Say{Kind: 0, From: 3, To: to, Root: root, Piece: pieces[to]}))
			n = does(t, n, opLie(echoOf(3, to, root)))
		}
		n = drained(t, n)
		checkNetDone(t, n, root, []int{0, 1, 2})
		checkNetPieces(t, n, root, pieces[:2])
		for _, lies := range [][]impl.Piece{nil, {lie}, {{}, lie, lie}, {lie, pieces[1]}, {pieces[0], lie}, slices.Repeat([]impl.Piece{lie}, 40)} {
			checkGet(t, n, root, lies, "", impl.GetBad)
		}
	}
}

// The lies are ahead of the pieces: only at a net that is not NetOk can it be seen, where a node has a piece of another K.
func TestNetGetTakesLiesFirst(t *testing.T) {
	bodies := longEncode("numbers that lie", 2, 4)
	mixed := bound([]impl.Piece{{K: 2, N: 4, Index: 0, Body: bodies[0]}, {K: 2, N: 4, Index: 1, Body: bodies[1]}, {K: 1, N: 4, Index: 2, Body: bodies[2]}, {K: 2, N: 4, Index: 3, Body: bodies[3]}})
	root := mixed[0].Root
	n := startedNet(t, 1, nil)
	n.Nodes[0].Slots = []impl.Slot{{Root: root, Piece: mixed[2], Has: true}}
	checkGet(t, n, root, nil, "", impl.GetBad)
	checkGet(t, n, root, mixed[:1], "", impl.GetFew)
	checkGet(t, n, root, mixed[2:3], "", impl.GetBad)
}

// breach is a net that is not NetOk, and why.
type breach struct {
	why string
	net impl.Net
}

// numberBreaches are nets whose F does not go with all else.
func numberBreaches(n impl.Net) []breach {
	list := []breach{{"the zero value", impl.Net{}}, {"an F whose 3 F + 1 wraps to 0", impl.Net{F: math.MaxUint64 / 3}}}
	for _, f := range append(slices.Clone(noFaults), 1, 2, 3) {
		if f != n.F {
			list = append(list, breach{"another F", otherNet(n, func(n *impl.Net) { n.F = f })})
		}
	}
	for _, f := range []int{0, 4, 5} { // all of it goes with such an F
		none := impl.Net{F: f}
		for id := range 3*f + 1 {
			none.Nodes = append(none.Nodes, impl.Node{Id: id, F: f})
		}
		list = append(list, breach{"no such F", none})
	}
	return list
}

func nodeBreaches(n impl.Net) []breach {
	last := 3 * n.F
	list := []breach{
		{"no nodes", otherNet(n, func(n *impl.Net) { n.Nodes = nil })},
		{"the first node is gone", otherNet(n, func(n *impl.Net) { n.Nodes = n.Nodes[1:] })},
		{"the last node is gone", otherNet(n, func(n *impl.Net) { n.Nodes = n.Nodes[:last] })},
		{"a node too many", otherNet(n, func(n *impl.Net) { n.Nodes = append(n.Nodes, impl.Node{Id: last + 1, F: n.F}) })},
		{"the last node twice", otherNet(n, func(n *impl.Net) { n.Nodes = append(n.Nodes, cloneNode(n.Nodes[last])) })},
		{"nodes turned round", otherNet(n, func(n *impl.Net) { slices.Reverse(n.Nodes) })},
	}
	for id := range n.Nodes {
		next := (id + 1) % (last + 1)
		for _, change := range []func(node *impl.Node){
			func(node *impl.Node) { node.Id = next },
			func(node *impl.Node) { *node = impl.Node{Id: next, F: n.F} },
			func(node *impl.Node) { *node = impl.Node{Id: -1, F: n.F} },
			func(node *impl.Node) { *node = impl.Node{Id: id, F: n.F%3 + 1} },
			func(node *impl.Node) { *node = impl.Node{Id: id, F: max(n.F-1, (id+2)/3)%3 + 1} },
			func(node *impl.Node) { *node = impl.Node{} },
			func(node *impl.Node) { node.F = 0 },
			func(node *impl.Node) { node.Slots = append(node.Slots, impl.Slot{Root: "short"}) },
			func(node *impl.Node) {
				node.Slots = append(node.Slots, impl.Slot{Root: impl.Leaf("bad"), Echoed: true})
			},
			func(node *impl.Node) {
				node.Slots = append(node.Slots, impl.Slot{Root: impl.Leaf("bad"), Echoes: []int{last + 1}})
			},
		} {
			bad := otherNet(n, func(n *impl.Net) { change(&n.Nodes[id]) })
			if !longNetOk(bad) {
				list = append(list, breach{"node " + strconv.Itoa(id), bad})
			}
		}
	}
	return list
}

func otherBreaches(n impl.Net) []breach {
	list := []breach{}
	for _, liars := range notLiars(n.F) {
		list = append(list, breach{"liars", otherNet(n, func(n *impl.Net) { n.Liars = liars })})
	}
	for _, count := range []int{3001, 3002, 6000} {
		list = append(list, breach{"too many on the way", onWay(n, filled(impl.Net{}, count).Way...)})
	}
	return list
}

func TestNetOkRefuses(t *testing.T) {
	eachLiars(func(f int, liars []int) {
		n := does(t, startedNet(t, f, liars), opBring("right so far"))
		n = impl.NetRun(n, make([]impl.NetOp, 5*f))
		if !impl.NetOk(n) || !longNetOk(n) || len(n.Way) == 0 {
			t.Fatalf("NetOk(%s) is false", brief(n))
		}
		lie := opLie(impl.Say{Kind: 1, From: slices.Max(append(liars, 0)), To: 0, Root: impl.Leaf("a lie")})
		for _, b := range slices.Concat(numberBreaches(n), nodeBreaches(n), otherBreaches(n)) {
			if impl.NetOk(b.net) || longNetOk(b.net) {
				t.Fatalf("%s: NetOk(%s) is true", b.why, brief(b.net))
			}
			ops := []impl.NetOp{opHear(0), opTwice(0), lie, opBring("ab"), {Kind: 9}, opHear(-1)}
			for _, op := range ops {
				notSo(t, b.net, op, b.why)
			}
			kept := cloneNet(b.net)
			for _, got := range []impl.Net{impl.NetRun(b.net, ops), impl.NetRun(b.net, nil), impl.NetRun(b.net, make([]impl.NetOp, 301)), impl.NetDrain(b.net)} {
				if !sameNet(got, kept) {
					t.Fatalf("%s: the net is answered as %s, want it as it is: %s", b.why, brief(got), brief(kept))
				}
			}
		}
	})
}

func TestNetOkAtTheLimits(t *testing.T) {
	eachLiars(func(f int, liars []int) {
		n := startedNet(t, f, liars)
		for _, count := range []int{0, 1, 2999, 3000} {
			if !impl.NetOk(filled(n, count)) {
				t.Fatalf("%d on the way are too many", count)
			}
		}
		for id := range n.Nodes {
			if f == 1 || id == 2 { // of more nodes one will do
				n.Nodes[id] = fullNode(t, id, f, 40)
			}
		}
		if !impl.NetOk(n) {
			t.Fatalf("nodes with MaxSlots slots are too full")
		}
		if over := otherNet(n, func(n *impl.Net) { n.Nodes[2].Slots = append(n.Nodes[2].Slots, impl.Slot{Root: impl.Leaf("more")}) }); impl.NetOk(over) {
			t.Fatalf("a node with one more is not too full")
		}
	})
}

// The document wants no right net of those that look at one: a node's number is its place, and a slot is the first of its root.
func TestNetLooksAtAnyNet(t *testing.T) {
	all := longPieces(2, longEncode("any net", 2, 4))
	root := all[0].Root
	slot := func(p impl.Piece, done bool) []impl.Slot {
		return []impl.Slot{{Root: "short"}, {Root: root, Piece: p, Has: true, Done: done}, {Root: root, Done: true}}
	}
	n := impl.Net{F: 1, Liars: []int{7, 2, 2, -1}, Nodes: []impl.Node{{Id: 9, Slots: slot(all[3], true)}, {Id: 9, Slots: slot(all[1], false)}, {Slots: slot(all[2], true)}, {}, {F: 3, Slots: slot(all[0], true)}}}
	checkNetDone(t, n, root, []int{0, 4})
	checkNetPieces(t, n, root, []impl.Piece{all[3], all[1], all[0]})
	checkGet(t, n, root, nil, "any net", impl.GetOk)
	checkNotKept(t, n, "short")
	for _, f := range noFaults {
		n.F = f
		checkNetDone(t, n, root, []int{0, 4})
		checkGet(t, n, root, all, "any net", impl.GetOk)
	}
	checkNotKept(t, impl.Net{}, "")
	checkGet(t, impl.Net{}, root, all, "", impl.GetFew)
	many := impl.Net{F: 1}
	for range 65 {
		many.Nodes = append(many.Nodes, impl.Node{Slots: slot(all[0], true)}, impl.Node{})
	}
	checkGet(t, many, root, nil, "", impl.GetFew) // more pieces than Regain takes
	if done := impl.NetDone(many, root); len(done) != 65 || done[64] != 128 {
		t.Errorf("NetDone of 130 nodes = %v", done)
	}
}

// net draws a net that is right more often than not, with something on its way.
func (d *drawer) net(f int, texts [][]impl.Say) impl.Net {
	liars := d.order(3*f + 1)[:d.below(f+1)]
	slices.Sort(liars)
	n := impl.Net{F: f, Liars: liars}
	for id := range 3*f + 1 {
		node := impl.Node{Id: id, F: f}
		for _, place := range d.order(len(texts))[:d.below(len(texts)+1)*d.below(2)] {
			node.Slots = append(node.Slots, d.slot(id, f, texts[place]))
		}
		n.Nodes = append(n.Nodes, node)
	}
	for range d.below(12) {
		n.Way = append(n.Way, d.saying(impl.Node{Id: d.below(3*f + 1), F: f}, texts))
	}
	switch d.below(30) {
	case 0:
		n.F = d.below(6) - 1
	case 1:
		n.Liars = append(n.Liars, d.below(14)-2)
	case 2:
		n.Nodes[d.below(len(n.Nodes))].Id++
	}
	return n
}

func TestNetAnyNet(t *testing.T) {
	d := drawer(145)
	right, wrong, so, notso := 0, 0, 0, 0
	for round := range 900 {
		f := 1 + round%3
		texts := d.brought(f, 3)
		n := d.net(f, texts)
		ok := longNetOk(n)
		if impl.NetOk(n) != ok {
			t.Fatalf("NetOk(%s) is %v", brief(n), !ok)
		}
		for range 4 {
			op := d.op(impl.Net{F: f, Liars: n.Liars, Way: n.Way}, texts)
			want, wantOk := longNetDo(n, op)
			if got, gotOk := impl.NetDo(n, op); gotOk != wantOk || !sameNet(got, want) || impl.NetOk(got) != ok {
				t.Fatalf("NetDo(%s, %s) = %s, %v, want %s, %v", brief(n), brief(op), brief(got), gotOk, brief(want), wantOk)
			}
			if wantOk {
				so++
			} else if ok {
				notso++
			}
		}
		if !ok {
			wrong++
		} else {
			right++
		}
		checkAnyNet(t, &d, n, texts)
	}
	if right < 200 || wrong < 200 || so < 600 || notso < 100 {
		t.Errorf("%d nets right, %d wrong, %d ops so, %d not: the test has grown weak", right, wrong, so, notso)
	}
}

// checkAnyNet wants all else of a drawn net to be as it was reckoned apart.
func checkAnyNet(t *testing.T, d *drawer, n impl.Net, texts [][]impl.Say) {
	t.Helper()
	if got, want := impl.NetDrain(n), longNetDrain(n); !sameNet(got, want) {
		t.Fatalf("NetDrain(%s) = %s, want %s", brief(n), brief(got), brief(want))
	}
	for _, text := range texts {
		root := text[0].Root
		checkNetDone(t, n, root, longNetDone(n, root))
		checkNetPieces(t, n, root, longNetPieces(n, root))
		lies := d.lies(text, texts)
		want, wantCode := longNetGet(n, root, lies)
		checkGet(t, n, root, lies, want, wantCode)
	}
}

// roomySays are sayings with spare room behind the list and behind each proof, and a look at all of that memory.
func roomySays(says []impl.Say) ([]impl.Say, func() []impl.Say) {
	spare := impl.Say{Root: "spare room", Piece: impl.Piece{Proof: []string{"kept"}}}
	whole, proofs := append(cloneSays(says), spare, spare), [][]string{}
	for i := range whole {
		proof, memory := roomyTexts(whole[i].Piece.Proof)
		whole[i].Piece.Proof = proof
		proofs = append(proofs, memory)
	}
	look := func() []impl.Say {
		seen := cloneSays(whole)
		for i := range seen {
			seen[i].Piece.Proof = append(seen[i].Piece.Proof, proofs[i]...)
		}
		return seen
	}
	return whole[:len(says)], look
}

// roomyNet is a net with spare room behind each of its lists, and a look at all of that memory.
func roomyNet(n impl.Net) (impl.Net, func() impl.Net) {
	nodes, looks := []impl.Node{}, []func() impl.Node{}
	for _, node := range append(slices.Clone(n.Nodes), impl.Node{Id: 88}, impl.Node{Id: 89}) {
		roomy, look := roomyNode(node)
		nodes, looks = append(nodes, roomy), append(looks, look)
	}
	liars, memory := withRoom(n.Liars)
	way, lookAtWay := roomySays(n.Way)
	look := func() impl.Net {
		seen := impl.Net{F: n.F, Liars: slices.Clone(memory), Way: lookAtWay()}
		for i, look := range looks {
			node := look()
			node.Id, node.F = nodes[i].Id, nodes[i].F
			seen.Nodes = append(seen.Nodes, node)
		}
		return seen
	}
	return impl.Net{F: n.F, Nodes: nodes[:len(n.Nodes)], Liars: liars, Way: way}, look
}

func writeOverNet(n impl.Net) {
	for i := range n.Nodes[:cap(n.Nodes)] {
		writeOverNode(n.Nodes[:cap(n.Nodes)][i])
		n.Nodes[:cap(n.Nodes)][i] = impl.Node{Id: 55}
	}
	for i := range n.Liars[:cap(n.Liars)] {
		n.Liars[:cap(n.Liars)][i] = 55
	}
	writeOverSays(n.Way)
}

func writeOverPieces(pieces []impl.Piece) {
	for i := range pieces[:cap(pieces)] {
		writeOver(pieces[:cap(pieces)][i])
		pieces[:cap(pieces)][i] = impl.Piece{Root: "written over"}
	}
}

func TestNetWritesIntoNoArgument(t *testing.T) {
	d := drawer(146)
	for round := range 300 {
		f := 1 + round%3
		texts := d.brought(f, 3)
		n, look := roomyNet(d.net(f, texts))
		kept := look()
		says := []impl.Say{}
		ops := d.drawnOps(impl.Net{F: f, Liars: n.Liars, Way: n.Way}, texts, 8)
		for _, op := range ops {
			says = append(says, op.Say)
		}
		says, lookAtSays := roomySays(says)
		for i := range ops {
			ops[i].Say = says[i]
		}
		lies, memory, proofs := roomyPieces(d.lies(texts[0], texts))
		keptSays, keptLies, keptProofs := lookAtSays(), slices.Clone(memory), cloneProofs(proofs)
		for _, op := range ops {
			after, _ := impl.NetDo(n, op)
			writeOverNet(after)
		}
		impl.NetOk(n)
		writeOverNet(impl.NetRun(n, ops))
		writeOverNet(impl.NetRun(n, make([]impl.NetOp, 301)))
		writeOverNet(impl.NetDrain(n))
		impl.NetGet(n, texts[0][0].Root, lies)
		writeOverPieces(impl.NetPieces(n, texts[0][0].Root))
		impl.NetDone(n, texts[0][0].Root)
		if started, ok := impl.NetStart(f, n.Liars); ok {
			writeOverNet(started)
		}
		if !sameNet(look(), kept) {
			t.Fatalf("the net or the room behind it was written into: %s", brief(n))
		}
		if !slices.EqualFunc(lookAtSays(), keptSays, sameSay) || !slices.EqualFunc(memory, keptLies, samePiece) || !slices.EqualFunc(proofs, keptProofs, slices.Equal[[]string]) {
			t.Fatalf("the ops, the lies or the room behind them were written into: %s, %s", brief(ops), brief(lies))
		}
	}
}

// span is the memory of a list with the room behind it.
type span struct {
	start uintptr
	end   uintptr
}

func addSpan[T any](spans []span, list []T) []span {
	if cap(list) == 0 {
		return spans
	}
	var one T
	start := uintptr(unsafe.Pointer(unsafe.SliceData(list)))
	return append(spans, span{start, start + uintptr(cap(list))*unsafe.Sizeof(one)})
}

// spansOf is the memory of all lists of a net.
func spansOf(n impl.Net) []span {
	spans := addSpan(addSpan(addSpan(nil, n.Nodes), n.Liars), n.Way)
	for _, node := range n.Nodes {
		spans = addSpan(spans, node.Slots)
		for _, s := range node.Slots {
			spans = addSpan(addSpan(addSpan(spans, s.Echoes), s.Readies), s.Piece.Proof)
		}
	}
	for _, s := range n.Way {
		spans = addSpan(spans, s.Piece.Proof)
	}
	return spans
}

// checkOwnSpans wants no two of the answer's lists, nor one of these and an argument's, to share memory.
func checkOwnSpans(t *testing.T, answer []span, arguments []span) {
	t.Helper()
	for i, a := range answer {
		for _, b := range slices.Concat(answer[i+1:], arguments) {
			if a.start < b.end && b.start < a.end {
				t.Fatalf("two lists share memory: %v, %v", a, b)
			}
		}
	}
}

func textsOfNet(n impl.Net) []string {
	texts := textsOfSays(n.Way)
	for _, node := range n.Nodes {
		more, _ := textsOfNode(node)
		texts = append(texts, more...)
	}
	return texts
}

// checkOwnNet wants all of a net that is answered to lie in memory of its own.
func checkOwnNet(t *testing.T, answer impl.Net, given impl.Net, says ...impl.Say) {
	t.Helper()
	arguments := impl.Net{Nodes: given.Nodes, Liars: given.Liars, Way: append(slices.Clone(given.Way), says...)}
	checkOwnTexts(t, textsOfNet(answer), textsOfNet(arguments))
	checkOwnSpans(t, spansOf(answer), append(spansOf(arguments), spansOf(given)...))
}

func TestNetAnswersAreNewMemory(t *testing.T) {
	d := drawer(147)
	for round := range 40 {
		f := 1 + round%2
		texts := d.brought(f, 2)
		n := d.net(f, texts)
		if round%2 == 0 {
			n = startedNet(t, f, []int{1})
			n.Way = slices.Concat(texts[0], texts[1], []impl.Say{{Kind: 1, From: 1, To: 1, Piece: texts[0][0].Piece}})
		}
		ops := d.drawnOps(impl.Net{F: f, Liars: n.Liars, Way: n.Way}, texts, 8)
		says := []impl.Say{}
		for _, op := range append(ops, opTwice(0), opHear(1), opBring("memory of its own"), opLie(texts[0][0])) {
			after, _ := impl.NetDo(n, op)
			checkOwnNet(t, after, n, op.Say)
			says = append(says, op.Say)
		}
		checkOwnNet(t, impl.NetRun(n, ops), n, says...)
		checkOwnNet(t, impl.NetRun(n, make([]impl.NetOp, 301)), n)
		checkOwnNet(t, impl.NetDrain(n), n)
		for _, text := range texts {
			checkOwnGot(t, impl.NetDrain(n), text)
		}
	}
	liars := []int{0, 2}
	n := startedNet(t, 2, liars)
	checkOwnSpans(t, spansOf(n), addSpan(nil, liars))
}

// checkOwnGot wants the pieces and the text that are got to lie in memory of their own.
func checkOwnGot(t *testing.T, n impl.Net, text []impl.Say) {
	t.Helper()
	root, lies := text[0].Root, []impl.Piece{}
	for _, s := range text {
		lies = append(lies, s.Piece)
	}
	given := append(textsOfNet(n), textsOf(lies...)...)
	pieces := impl.NetPieces(n, root)
	got, _ := impl.NetGet(n, root, lies)
	checkOwnTexts(t, append(textsOf(pieces...), got), append(given, root))
	spans := addSpan(addSpan(nil, pieces), impl.NetDone(n, root))
	for _, p := range pieces {
		spans = addSpan(spans, p.Proof)
	}
	checkOwnSpans(t, spans, spansOf(n))
}

// sharingNet shares lists with itself. It tells what was brought to it, too.
func sharingNet() (impl.Net, []impl.Say) {
	brought := longSays("shared", 1)
	list := []int{0, 1}
	slots := []impl.Slot{{Root: brought[0].Root, Echoes: list, Readies: list[:1]}}
	n := impl.Net{F: 1, Liars: list[:1], Way: slices.Repeat(brought[1:2], 3)}
	for id := range 4 {
		n.Nodes = append(n.Nodes, impl.Node{Id: id, F: 1, Slots: slots})
	}
	return n, brought
}

// Lists that a net shares with itself are apart in what is answered.
func TestNetListsThatAreShared(t *testing.T) {
	n, brought := sharingNet()
	for _, wrong := range []bool{false, true} {
		if wrong {
			n.Nodes[3].Id = 2
		}
		for _, op := range []impl.NetOp{opHear(0), opTwice(1), opBring("shared"), opLie(brought[1]), {Kind: 9}} {
			after, ok := impl.NetDo(n, op)
			if want, wantOk := longNetDo(n, op); ok != wantOk || !sameNet(after, want) {
				t.Fatalf("NetDo of kind %d = %s, %v, want %s", op.Kind, brief(after), ok, brief(want))
			}
			checkOwnNet(t, after, n, op.Say)
		}
		checkOwnNet(t, impl.NetRun(n, []impl.NetOp{opTwice(0), opTwice(0), opHear(2)}), n)
		checkOwnNet(t, impl.NetDrain(n), n)
	}
}

func TestNetKeepsNothing(t *testing.T) {
	for range 3 {
		n := startedNet(t, 1, []int{3})
		root := longSays("kept by nobody", 1)[0].Root
		checkNotKept(t, n, root)
		brought := does(t, n, opBring("kept by nobody"))
		does(t, brought, opHear(2))
		does(t, brought, opHear(2))
		notSo(t, n, opHear(0), "nothing is on the way")
		checkKept(t, drained(t, brought), "kept by nobody")
		writeOverNet(drained(t, brought))
		checkKept(t, drained(t, brought), "kept by nobody")
		checkNotKept(t, n, root)
		startedNet(t, 1, nil)
	}
}
