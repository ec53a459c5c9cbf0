package tests

import (
	"cmp"
	"fmt"
	"maps"
	"math"
	"regexp"
	"slices"
	"strconv"
	"strings"
	"sync"
	"testing"

	"loop.example/g00210/impl"
)

func sameArchive(a impl.Archive, b impl.Archive) bool {
	return sameNet(a.Net, b.Net) && slices.Equal(a.Entries, b.Entries) && slices.Equal(a.Marks, b.Marks)
}

func cloneArchive(a impl.Archive) impl.Archive {
	return impl.Archive{Net: cloneNet(a.Net), Entries: slices.Clone(a.Entries), Marks: slices.Clone(a.Marks)}
}

// otherArchive is a with a change made to a copy of it.
func otherArchive(a impl.Archive, change func(a *impl.Archive)) impl.Archive {
	a = cloneArchive(a)
	change(&a)
	return a
}

func briefArchive(a impl.Archive) string {
	slots := []int{}
	for _, node := range a.Net.Nodes {
		slots = append(slots, len(node.Slots))
	}
	return fmt.Sprintf("%.600s", fmt.Sprintf("{entries %s, marks %v, F %d, liars %v, slots %v, %d on the way}", brief(a.Entries), a.Marks, a.Net.F, a.Net.Liars, slots, len(a.Net.Way)))
}

var nameForm = regexp.MustCompile(`\A[a-z0-9.]{1,20}\z`)

// longArchiveOk asks for one sentence of the document after the other, apart from the program.
func longArchiveOk(a impl.Archive) bool {
	for i, e := range a.Entries {
		if !nameForm.MatchString(e.Name) || i > 0 && a.Entries[i-1].Name >= e.Name {
			return false
		}
	}
	return len(a.Entries) <= 30 && len(a.Net.Way) == 0 && longNetOk(a.Net)
}

// longPlace is below 0 where there is no entry of that name.
func longPlace(a impl.Archive, name string) int {
	return slices.IndexFunc(a.Entries, func(e impl.Entry) bool { return e.Name == name })
}

func longFull(a impl.Archive, name string, root string) bool {
	for _, id := range honestOf(a.Net) {
		if node := a.Net.Nodes[id]; len(node.Slots) == 40 && longSlot(node, root).Root != root {
			return true
		}
	}
	return len(a.Entries) == 30 && longPlace(a, name) < 0
}

// longPut is what ArcPut must answer at any arguments, by the document's words, apart from the program.
func longPut(a impl.Archive, name string, data string) (impl.Archive, int) {
	switch {
	case !longArchiveOk(a):
		return a, 6
	case !nameForm.MatchString(name):
		return a, 1
	case len(data) > 2000:
		return a, 3
	}
	root := longSays(data, a.Net.F)[0].Root
	if longFull(a, name, root) {
		return a, 2
	}
	brought, _ := longDo(cloneNet(a.Net), opBring(data))
	entries := slices.DeleteFunc(slices.Clone(a.Entries), func(e impl.Entry) bool { return e.Name == name })
	entries = append(entries, impl.Entry{Name: name, Root: root, Size: len(data)})
	slices.SortFunc(entries, func(x impl.Entry, y impl.Entry) int { return cmp.Compare(x.Name, y.Name) })
	return impl.Archive{Net: longNetDrain(brought), Entries: entries, Marks: a.Marks}, 0
}

func longArcGet(a impl.Archive, name string, lies []impl.Piece) (string, int) {
	place := longPlace(a, name)
	if place < 0 || !longArchiveOk(a) {
		return "", 4
	}
	text, code := longNetGet(a.Net, a.Entries[place].Root, lies)
	return text, []int{0, 5, 6}[code]
}

func longDrop(a impl.Archive, name string) (impl.Archive, int) {
	place := longPlace(a, name)
	if place < 0 || !longArchiveOk(a) {
		return a, 4
	}
	return otherArchive(a, func(a *impl.Archive) { a.Entries = slices.Delete(a.Entries, place, place+1) }), 0
}

func longArcWipe(a impl.Archive, id int) (impl.Archive, int) {
	if !longArchiveOk(a) || id < 0 || id > 3*a.Net.F {
		return a, 7
	}
	return otherArchive(a, func(a *impl.Archive) { a.Net.Nodes[id].Slots = nil }), 0
}

func entryRoots(a impl.Archive) []string {
	roots := []string{}
	for _, e := range a.Entries {
		roots = append(roots, e.Root)
	}
	return roots
}

func longArcRepair(a impl.Archive, id int) (impl.Archive, int) {
	if !longArchiveOk(a) || !slices.Contains(honestOf(a.Net), id) {
		return a, -1
	}
	net, helped := longRepair(a.Net, id, entryRoots(a))
	return impl.Archive{Net: longNetDrain(net), Entries: a.Entries, Marks: a.Marks}, helped
}

func longArcMove(a impl.Archive, f int, liars []int) (impl.Archive, int) {
	net, there, ok := longMove(a.Net, entryRoots(a), f, liars)
	if !ok || !longArchiveOk(a) {
		return a, -1
	}
	entries := []impl.Entry{}
	for i, e := range a.Entries {
		if there[i] != "" {
			entries = append(entries, impl.Entry{Name: e.Name, Root: there[i], Size: e.Size})
		}
	}
	return impl.Archive{Net: net, Entries: entries}, len(a.Entries) - len(entries)
}

func longArcAudit(a impl.Archive, salt string) impl.Archive {
	texts := []string{}
	for _, e := range a.Entries {
		if text, code := longArcGet(a, e.Name, nil); code == 0 {
			texts = append(texts, text)
		}
	}
	return impl.Archive{Net: a.Net, Entries: a.Entries, Marks: longAuditAll(a.Net, texts, salt, a.Marks)}
}

func longList(a impl.Archive) string {
	list := ""
	for _, e := range a.Entries {
		list += fmt.Sprintf("%s %d %x\n", e.Name, e.Size, e.Root)
	}
	return list
}

func checkArchive(t *testing.T, a impl.Archive, want bool, why string) {
	t.Helper()
	if impl.ArchiveOk(a) != want || longArchiveOk(a) != want {
		t.Fatalf("%s: ArchiveOk of %s is %v, want %v", why, briefArchive(a), !want, want)
	}
}

// checkAs wants an answer to be what was reckoned apart, with this number beside it.
func checkAs(t *testing.T, what string, got impl.Archive, number int, reckoned impl.Archive, reckonedNumber int, want int) impl.Archive {
	t.Helper()
	if reckonedNumber != want {
		t.Fatalf("%s: %d by the reckoning, want %d", what, reckonedNumber, want)
	}
	if number != want || !sameArchive(got, reckoned) {
		t.Fatalf("%s = %s, %d, want %s, %d", what, briefArchive(got), number, briefArchive(reckoned), want)
	}
	return got
}

func checkPut(t *testing.T, a impl.Archive, name string, data string, want int) impl.Archive {
	t.Helper()
	got, code := impl.ArcPut(a, name, data)
	reckoned, reckonedCode := longPut(a, name, data)
	return checkAs(t, fmt.Sprintf("ArcPut of %q with %d bytes", name, len(data)), got, code, reckoned, reckonedCode, want)
}

func checkArcGet(t *testing.T, a impl.Archive, name string, lies []impl.Piece, want string, wantCode int) {
	t.Helper()
	reckoned, reckonedCode := longArcGet(a, name, lies)
	if reckoned != want || reckonedCode != wantCode {
		t.Fatalf("ArcGet of %q: %.60q, %d by the reckoning, want %.60q, %d", name, reckoned, reckonedCode, want, wantCode)
	}
	if got, code := impl.ArcGet(a, name, lies); got != want || code != wantCode {
		t.Fatalf("ArcGet of %q with %d lies = %.60q, %d, want %.60q, %d; the archive is %s", name, len(lies), got, code, want, wantCode, briefArchive(a))
	}
}

func checkDrop(t *testing.T, a impl.Archive, name string, want int) impl.Archive {
	t.Helper()
	got, code := impl.ArcDrop(a, name)
	reckoned, reckonedCode := longDrop(a, name)
	return checkAs(t, fmt.Sprintf("ArcDrop of %q", name), got, code, reckoned, reckonedCode, want)
}

func checkArcWipe(t *testing.T, a impl.Archive, id int, want int) impl.Archive {
	t.Helper()
	got, code := impl.ArcWipe(a, id)
	reckoned, reckonedCode := longArcWipe(a, id)
	return checkAs(t, fmt.Sprintf("ArcWipe of node %d", id), got, code, reckoned, reckonedCode, want)
}

func checkArcRepair(t *testing.T, a impl.Archive, id int, want int) impl.Archive {
	t.Helper()
	got, helped := impl.ArcRepair(a, id)
	reckoned, reckonedHelped := longArcRepair(a, id)
	return checkAs(t, fmt.Sprintf("ArcRepair of node %d", id), got, helped, reckoned, reckonedHelped, want)
}

func checkArcMove(t *testing.T, a impl.Archive, f int, liars []int, want int) impl.Archive {
	t.Helper()
	got, left := impl.ArcMove(a, f, liars)
	reckoned, reckonedLeft := longArcMove(a, f, liars)
	return checkAs(t, fmt.Sprintf("ArcMove to F %d with the liars %v", f, liars), got, left, reckoned, reckonedLeft, want)
}

func checkArcAudit(t *testing.T, a impl.Archive, salt string, want []impl.Mark) impl.Archive {
	t.Helper()
	got, reckoned := impl.ArcAudit(a, salt), longArcAudit(a, salt)
	if !slices.Equal(reckoned.Marks, want) {
		t.Fatalf("ArcAudit: the marks are %v by the reckoning, want %v", reckoned.Marks, want)
	}
	return checkAs(t, fmt.Sprintf("ArcAudit with %d bytes of salt", len(salt)), got, 0, reckoned, 0, 0)
}

func checkList(t *testing.T, a impl.Archive, want string) {
	t.Helper()
	if got := impl.ArcList(a); got != want || longList(a) != want {
		t.Fatalf("ArcList = %.300q, want %.300q", got, want)
	}
}

func startedArchive(t *testing.T, f int, liars []int) impl.Archive {
	t.Helper()
	a, ok := impl.ArchiveStart(f, liars)
	if want := (impl.Archive{Net: startedNet(t, f, liars)}); !ok || !sameArchive(a, want) {
		t.Fatalf("ArchiveStart(%d, %v) = %s, %v", f, liars, briefArchive(a), ok)
	}
	checkArchive(t, a, true, "a new archive")
	return a
}

// label is a text and the name that it is put under.
type label struct {
	name string
	text string
}

// filed is an archive that texts were put into, one after the other.
func filed(t *testing.T, f int, liars []int, labels ...label) impl.Archive {
	t.Helper()
	a := startedArchive(t, f, liars)
	for _, l := range labels {
		after, code := impl.ArcPut(a, l.name, l.text)
		if code != impl.ArcDone {
			t.Fatalf("ArcPut of %q with %d bytes into %s = %d", l.name, len(l.text), briefArchive(a), code)
		}
		a = after
	}
	checkArchive(t, a, true, "texts were put into it")
	return a
}

// numberedLabels have names that ascend.
func numberedLabels(count int) []label {
	labels := []label{}
	for i, text := range numberedTexts(count) {
		labels = append(labels, label{fmt.Sprintf("n%02d", i), text})
	}
	return labels
}

func textsUnder(labels []label) []string {
	texts := []string{}
	for _, l := range labels {
		texts = append(texts, l.text)
	}
	return texts
}

// checkFiled wants just these entries, as they are told, and each text to be got by its name. The labels ascend.
func checkFiled(t *testing.T, a impl.Archive, labels ...label) {
	t.Helper()
	entries, list := []impl.Entry{}, ""
	for _, l := range labels {
		root := rootsOf(a.Net.F, l.text)[0]
		entries = append(entries, impl.Entry{Name: l.name, Root: root, Size: len(l.text)})
		list += l.name + " " + strconv.Itoa(len(l.text)) + " " + fmt.Sprintf("%x", root) + "\n"
	}
	if !slices.Equal(a.Entries, entries) {
		t.Fatalf("the entries are %s, want %s", brief(a.Entries), brief(entries))
	}
	checkArchive(t, a, true, "each text is to be got")
	checkList(t, a, list)
	for _, l := range labels {
		checkArcGet(t, a, l.name, nil, l.text, impl.ArcDone)
	}
}

// withEntries is an archive with entries for roots that were never put there.
func withEntries(a impl.Archive, entries ...impl.Entry) impl.Archive {
	return otherArchive(a, func(a *impl.Archive) { a.Entries = append(a.Entries, entries...) })
}

// someMarks are marks that an audit goes on from.
func someMarks() []impl.Mark {
	return []impl.Mark{{Node: 0, Good: 4, Bad: 1}, {Node: 2, Good: 1, Bad: 3, Row: 2}}
}

func TestArchiveNumbers(t *testing.T) {
	codes := []int{impl.ArcDone, impl.ArcName, impl.ArcFull, impl.ArcData, impl.ArcNone, impl.ArcLost, impl.ArcBad, impl.ArcNode}
	if impl.MaxNames != 30 || impl.MaxName != 20 || !slices.Equal(codes, []int{0, 1, 2, 3, 4, 5, 6, 7}) {
		t.Errorf("the numbers are %d, %d, %v", impl.MaxNames, impl.MaxName, codes)
	}
}

func TestArchiveStarts(t *testing.T) {
	for f := 1; f <= 3; f++ {
		for _, liars := range liarSets(f) {
			a := startedArchive(t, f, liars)
			checkList(t, a, "")
		}
		startedArchive(t, f, []int{})
	}
}

func TestArchiveStartRefuses(t *testing.T) {
	refused := func(f int, liars []int) {
		t.Helper()
		if a, ok := impl.ArchiveStart(f, liars); ok || !sameArchive(a, impl.Archive{}) {
			t.Fatalf("ArchiveStart(%d, %v) = %s, %v, want the zero value", f, liars, briefArchive(a), ok)
		}
	}
	for _, f := range noFaults {
		for _, liars := range [][]int{nil, {}, {0}, {1}} {
			refused(f, liars)
		}
	}
	for f := 1; f <= 3; f++ {
		for _, liars := range notLiars(f) {
			refused(f, liars)
		}
	}
}

// Numbers of another program: the root of "ab" among four nodes.
func TestArchiveWrittenOut(t *testing.T) {
	a := filed(t, 1, []int{3}, label{"x", "ab"})
	checkList(t, a, "x 2 309703fcab197a42aa9ee84a4ada3169\n")
	a = checkPut(t, a, "0.x", "", 0)
	checkList(t, a, "0.x 0 "+fmt.Sprintf("%x", rootsOf(1, "")[0])+"\nx 2 309703fcab197a42aa9ee84a4ada3169\n")
	checkArcGet(t, a, "x", nil, "ab", 0)
	checkArcGet(t, a, "0.x", nil, "", 0)
	checkArcGet(t, a, "ab", nil, "", 4)
}

// The order in which texts are put is not that of the names; the entries are ascending all the same.
func TestArchivePutsAndGets(t *testing.T) {
	d := drawer(181)
	labels := []label{{".", "a point"}, {"0", d.text(200)}, {"a", "first"}, {"a.", ""}, {"a.1", d.text(999)}, {"a0", "\x00\x00"}, {"aa", "second"}, {"b", d.text(2000)}, {"z.z", "last"}}
	eachLiars(func(f int, liars []int) {
		a, sofar := startedArchive(t, f, liars), []label{}
		for _, place := range d.order(len(labels)) {
			l := labels[place]
			checkArcGet(t, a, l.name, nil, "", impl.ArcNone)
			a, sofar = checkPut(t, a, l.name, l.text, impl.ArcDone), append(sofar, l)
			slices.SortFunc(sofar, func(x label, y label) int { return strings.Compare(x.name, y.name) })
		}
		checkFiled(t, a, sofar...)
		checkFiled(t, a, labels...)
		if len(a.Marks) != 0 {
			t.Fatalf("the marks are %v", a.Marks)
		}
		for _, l := range labels {
			checkKept(t, a.Net, l.text)
		}
	})
}

// What is there is what the nodes were brought, no more: a text under a second name brings no slot.
func TestArchivePutBringsTheText(t *testing.T) {
	eachLiars(func(f int, liars []int) {
		a := filed(t, f, liars, label{"one", "first"}, label{"two", "second"}, label{"zero", "first"})
		if want := settled(f, liars, []string{"first", "second"}); !sameNet(a.Net, want) {
			t.Fatalf("the net is %s, want %s", brief(a.Net), brief(want))
		}
		marked := otherArchive(a, func(a *impl.Archive) { a.Marks = someMarks() })
		got := checkPut(t, marked, "three", "third", impl.ArcDone)
		if !slices.Equal(got.Marks, someMarks()) {
			t.Fatalf("the marks are %v", got.Marks)
		}
	})
}

// A name that is there already has one entry, with the new root and size, and the text that was put last is got.
func TestArchivePutOfANameThatIsThere(t *testing.T) {
	eachLiars(func(f int, liars []int) {
		before, behind := label{"a", "ahead of it"}, label{"c", "behind it"}
		a := filed(t, f, liars, behind, before, label{"b", "as it was first"})
		slots := 3
		for _, text := range []string{"another", "another", "short", "", "as it was first", "short", "much longer than it was first", "another"} {
			news := !slices.ContainsFunc(a.Net.Nodes[2].Slots, func(s impl.Slot) bool { return s.Root == rootsOf(f, text)[0] })
			if news && !slices.Contains(liars, 2) {
				slots++
			}
			a = checkPut(t, a, "b", text, impl.ArcDone)
			checkFiled(t, a, before, label{"b", text}, behind)
			if !slices.Contains(liars, 2) && len(a.Net.Nodes[2].Slots) != slots {
				t.Fatalf("node 2 has %d slots, want %d", len(a.Net.Nodes[2].Slots), slots)
			}
		}
		for _, name := range []string{"a", "c"} { // the first one and the last one, too
			a = checkPut(t, a, name, "new", impl.ArcDone)
			checkArcGet(t, a, name, nil, "new", impl.ArcDone)
		}
		checkFiled(t, a, label{"a", "new"}, label{"b", "another"}, label{"c", "new"})
	})
}

// A text that some nodes have lost is brought again: a new entry of it makes them have it.
func TestArchivePutAgainOfWhatIsLost(t *testing.T) {
	eachLiars(func(f int, liars []int) {
		a := filed(t, f, liars, label{"a", "lost"}, label{"b", "lost, too"})
		for _, id := range honestOf(a.Net) {
			a = checkArcWipe(t, a, id, impl.ArcDone)
		}
		checkArcGet(t, a, "a", nil, "", impl.ArcLost)
		checkArcGet(t, a, "b", nil, "", impl.ArcLost)
		again := checkPut(t, a, "b", "lost, too", impl.ArcDone)
		checkArcGet(t, again, "b", nil, "lost, too", impl.ArcDone)
		checkArcGet(t, again, "a", nil, "", impl.ArcLost)
		other := checkPut(t, a, "c", "lost", impl.ArcDone) // under another name
		checkArcGet(t, other, "a", nil, "lost", impl.ArcDone)
		checkArcGet(t, other, "c", nil, "lost", impl.ArcDone)
		checkArcGet(t, other, "b", nil, "", impl.ArcLost)
	})
}

// noNames are texts that are none.
func noNames() []string {
	return []string{"", " ", "A", "aB", "a b", "a-b", "a_b", "a/b", "a:b", "a\n", "\na", "a\x00", "\x00", "\xff", "ä", "é.", "ａ", "a\x80", "-", ",", "a,", strings.Repeat("a", 21), strings.Repeat("a", 22), strings.Repeat(".", 40), strings.Repeat("a", 20+256), strings.Repeat("0", 65536+1)}
}

func TestArchiveNamesByLength(t *testing.T) {
	a := filed(t, 1, []int{3}, label{"m", "middle"})
	for size := range 24 {
		for _, letter := range []string{"a", "z", "0", "9", "."} {
			name := strings.Repeat(letter, size)
			if size < 1 || size > 20 {
				checkPut(t, a, name, "no name", impl.ArcName)
				checkArchive(t, otherArchive(a, func(a *impl.Archive) { a.Entries = []impl.Entry{{Name: name}} }), false, "no name")
				checkArcGet(t, a, name, nil, "", impl.ArcNone)
				checkDrop(t, a, name, impl.ArcNone)
				continue
			}
			got := checkPut(t, a, name, "a name", impl.ArcDone)
			checkArcGet(t, got, name, nil, "a name", impl.ArcDone)
			checkDrop(t, got, name, impl.ArcDone)
		}
	}
	for _, name := range noNames() {
		checkPut(t, a, name, "no name", impl.ArcName)
		checkArcGet(t, a, name, nil, "", impl.ArcNone)
		checkDrop(t, a, name, impl.ArcNone)
	}
}

// Each byte alone, and as the first, a middle and the last one of a name.
func TestArchiveNamesByByte(t *testing.T) {
	a := startedArchive(t, 1, nil)
	good := 0
	for x := range 256 {
		letter := string([]byte{byte(x)})
		code := impl.ArcName
		if strings.Contains("abcdefghijklmnopqrstuvwxyz0123456789.", letter) {
			code = impl.ArcDone
			good++
		}
		for _, name := range []string{letter, letter + "b", "b" + letter, "b" + letter + "b", strings.Repeat("x", 19) + letter} {
			checkPut(t, a, name, "byte by byte", code)
			checkArchive(t, withEntries(a, impl.Entry{Name: name}), code == impl.ArcDone, name)
		}
	}
	if good != 37 {
		t.Errorf("%d bytes may stand in a name", good)
	}
}

func TestArchiveUpToMaxNames(t *testing.T) {
	labels := numberedLabels(31)
	for f := 1; f <= 3; f++ {
		a := filed(t, f, []int{f}, labels[:29]...)
		full := checkPut(t, a, labels[29].name, labels[29].text, impl.ArcDone)
		checkFiled(t, full, labels[:30]...)
		for _, l := range []label{labels[30], {"a", "ahead of all"}, {"n15.", "between"}, {"z", labels[3].text}, {"z", ""}} {
			checkPut(t, full, l.name, l.text, impl.ArcFull)
		}
		for _, place := range []int{0, 15, 29} { // names that are there have their place
			got := checkPut(t, full, labels[place].name, "put anew", impl.ArcDone)
			want := slices.Clone(labels[:30])
			want[place].text = "put anew"
			checkFiled(t, got, want...)
			checkPut(t, got, labels[30].name, "put anew", impl.ArcFull)
		}
		less := checkDrop(t, full, labels[7].name, impl.ArcDone)
		again := checkPut(t, less, labels[30].name, labels[30].text, impl.ArcDone)
		checkFiled(t, again, slices.Delete(slices.Clone(labels), 7, 8)...)
		checkPut(t, again, labels[7].name, labels[7].text, impl.ArcFull)
	}
}

// By puts alone: forty texts are as many as the nodes have slots for, however few names there are.
func TestArchiveUpToMaxSlots(t *testing.T) {
	texts := numberedTexts(41)
	for f := 1; f <= 3; f++ {
		a := startedArchive(t, f, []int{0})
		for i, text := range texts[:40] {
			a, _ = impl.ArcPut(a, "n"+strconv.Itoa(i%2), text)
		}
		checkFiled(t, a, label{"n0", texts[38]}, label{"n1", texts[39]})
		for _, name := range []string{"n0", "n1", "n2", "a"} {
			checkPut(t, a, name, texts[40], impl.ArcFull)
			checkPut(t, a, name, "", impl.ArcFull)
			got := checkPut(t, a, name, texts[5], impl.ArcDone) // the nodes have it still
			checkArcGet(t, got, name, nil, texts[5], impl.ArcDone)
		}
		dropped := checkDrop(t, checkDrop(t, a, "n0", 0), "n1", 0)
		checkPut(t, dropped, "n0", texts[40], impl.ArcFull) // what the nodes have stays
		w := checkArcWipe(t, a, 1, impl.ArcDone)
		checkPut(t, w, "n2", texts[40], impl.ArcFull) // the others are full
		for _, id := range honestOf(a.Net)[1:] {
			w = checkArcWipe(t, w, id, impl.ArcDone)
		}
		checkFiled(t, otherArchive(checkPut(t, w, "n2", texts[40], impl.ArcDone), func(a *impl.Archive) { a.Entries = a.Entries[2:] }), label{"n2", texts[40]})
	}
}

// One node alone with slots that are of nothing put here: one below the limit, at it, with one of that root, and a liar with as many.
func TestArchivePutWithAFullNode(t *testing.T) {
	eachLiars(func(f int, liars []int) {
		a := filed(t, f, liars, label{"a", "there already"})
		for id := range a.Net.Nodes {
			if f > 1 && id%3 != 0 {
				continue // of more nodes some will do
			}
			nearly := otherArchive(a, func(a *impl.Archive) { a.Net.Nodes[id] = fullNode(t, id, f, 39) })
			full := otherArchive(a, func(a *impl.Archive) { a.Net.Nodes[id] = fullNode(t, id, f, 40) })
			checkArchive(t, full, true, "a full node")
			want := impl.ArcFull
			if slices.Contains(liars, id) {
				want = impl.ArcDone
			}
			checkPut(t, nearly, "b", "new to it", impl.ArcDone)
			checkPut(t, full, "b", "new to it", want)
			checkPut(t, full, "a", "new to it", want)
			checkPut(t, full, "a", "there already", want) // all but this one have it
			for _, text := range []string{"slot 0", "slot 1", "slot 2", "slot 39"} {
				got := checkPut(t, full, "b", text, impl.ArcDone)
				checkArcGet(t, got, "b", nil, text, impl.ArcDone)
				checkPut(t, full, "a", text, impl.ArcDone)
			}
		}
	})
}

func TestArchivePutUpToMaxData(t *testing.T) {
	d := drawer(182)
	eachLiars(func(f int, liars []int) {
		a := filed(t, f, liars, label{"a", "there"})
		for _, size := range []int{0, 1, 2, 1999, 2000} {
			text := d.text(size)
			checkFiled(t, checkPut(t, a, "a", text, impl.ArcDone), label{"a", text})
			checkFiled(t, checkPut(t, a, "b", text, impl.ArcDone), label{"a", "there"}, label{"b", text})
		}
		for _, size := range []int{2001, 2002, 2500, 4000, 65536, 65536 + 5} {
			checkPut(t, a, "a", d.text(size), impl.ArcData)
			checkPut(t, a, "b", d.text(size), impl.ArcData)
		}
	})
}

// Where several refusals apply, the one that is named first counts.
func TestArchivePutRefusesInOrder(t *testing.T) {
	labels, long := numberedLabels(30), strings.Repeat("x", 2001)
	for f := 1; f <= 3; f++ {
		named := filed(t, f, []int{1}, labels...)
		full := otherArchive(named, func(a *impl.Archive) { a.Net.Nodes[2] = fullNode(t, 2, f, 40) })
		way := otherArchive(full, func(a *impl.Archive) { a.Net.Way = []impl.Say{{}} })
		for _, c := range []struct {
			a    impl.Archive
			name string
			text string
			want int
		}{
			{way, "A", long, impl.ArcBad}, {way, "new", long, impl.ArcBad}, {way, "new", "x", impl.ArcBad}, {way, "", "x", impl.ArcBad}, {way, "n00", "x", impl.ArcBad},
			{full, "A", long, impl.ArcName}, {full, "A", "x", impl.ArcName}, {named, "", long, impl.ArcName}, {named, "N00", "x", impl.ArcName},
			{full, "new", long, impl.ArcData}, {full, "n00", long, impl.ArcData}, {named, "new", long, impl.ArcData}, {named, "n00", long, impl.ArcData},
			{full, "new", "x", impl.ArcFull}, {full, "n00", "x", impl.ArcFull}, {full, "new", "slot 1", impl.ArcFull}, {named, "new", "x", impl.ArcFull},
			{full, "n00", "slot 1", impl.ArcDone}, {named, "n00", "x", impl.ArcDone},
		} {
			checkPut(t, c.a, c.name, c.text, c.want)
		}
	}
}

// Each node in turn has lost what it had, in a net with one liar: each text is got as it was put last, whatever the liar adds.
func TestArchiveGetsWhenOneNodeHasLostAll(t *testing.T) {
	d := drawer(183)
	for f := 1; f <= 3; f++ {
		for liar := range 3*f + 1 {
			if f == 3 && liar%2 == 0 {
				continue
			}
			texts := []string{d.text(70), "", d.text(2000), "as it was put last"}
			a := filed(t, f, []int{liar}, label{"d", "as it was put first"}, label{"c", texts[2]}, label{"b", texts[1]}, label{"d", texts[3]}, label{"a", texts[0]})
			brought := [][]impl.Say{longSays("as it was put first", f)}
			for _, text := range texts {
				brought = append(brought, longSays(text, f))
			}
			for id := range a.Net.Nodes {
				w := checkArcWipe(t, a, id, impl.ArcDone)
				for i, name := range []string{"a", "b", "c", "d"} {
					checkArcGet(t, w, name, nil, texts[i], impl.ArcDone)
					of := brought[i+1]
					own := of[liar].Piece
					checkArcGet(t, w, name, []impl.Piece{own}, texts[i], impl.ArcDone)
					spoilt := otherPiece(own, func(p *impl.Piece) { p.Body = changed(p.Body, 0, 1) })
					checkArcGet(t, w, name, slices.Repeat([]impl.Piece{spoilt}, 40), texts[i], impl.ArcDone)
					checkArcGet(t, w, name, []impl.Piece{brought[0][0].Piece, brought[0][1].Piece, brought[0][2].Piece}, texts[i], impl.ArcDone)
					checkArcGet(t, w, name, d.lies(of, brought), texts[i], impl.ArcDone)
				}
			}
		}
	}
}

// A name that is put again while a node has lost what it had: the last text is got when another one has lost all instead.
func TestArchiveGetsWhatWasPutLast(t *testing.T) {
	for liar := range 4 {
		a := filed(t, 1, []int{liar}, label{"x", "first"}, label{"y", "stays"})
		for first := range 4 {
			w := checkArcWipe(t, a, first, impl.ArcDone)
			w = checkPut(t, w, "x", "second", impl.ArcDone)
			checkFiled(t, w, label{"x", "second"}, label{"y", "stays"})
			for next := range 4 {
				ww := checkArcWipe(t, w, next, impl.ArcDone)
				checkArcGet(t, ww, "x", nil, "second", impl.ArcDone)
				if first == next || first == liar || next == liar {
					checkArcGet(t, ww, "y", nil, "stays", impl.ArcDone)
				} else {
					checkArcGet(t, ww, "y", nil, "", impl.ArcLost)
				}
			}
		}
	}
}

// The number of nodes that still have their pieces tells: F + 1 are enough, one less is lost, and a liar's own piece beside them is enough again.
func TestArchiveGetOfWhatIsLost(t *testing.T) {
	eachLiars(func(f int, liars []int) {
		a := filed(t, f, liars, label{"a", "lost"}, label{"b", "lost, too"})
		pieces := longPieces(f+1, longEncode("lost", f+1, 3*f+1))
		honest := honestOf(a.Net)
		for i, id := range honest {
			left := len(honest) - i
			if left > f {
				checkArcGet(t, a, "a", nil, "lost", impl.ArcDone)
			} else {
				checkArcGet(t, a, "a", nil, "", impl.ArcLost)
				checkArcGet(t, a, "b", nil, "", impl.ArcLost)
				checkArcGet(t, a, "c", nil, "", impl.ArcNone)
			}
			if left == f {
				checkArcGet(t, a, "a", pieces[honest[0]:honest[0]+1], "lost", impl.ArcDone)
				checkArcGet(t, a, "b", pieces[honest[0]:honest[0]+1], "", impl.ArcLost)
			}
			a = checkArcWipe(t, a, id, impl.ArcDone)
		}
		checkArcGet(t, a, "a", pieces[:f], "", impl.ArcLost)
		checkArcGet(t, a, "a", pieces[:f+1], "lost", impl.ArcDone)
		checkArcGet(t, a, "a", pieces, "lost", impl.ArcDone)
	})
}

func TestArchiveGetCodes(t *testing.T) {
	eachLiars(func(f int, liars []int) {
		a := filed(t, f, liars, label{"kept", "kept"})
		a.Net = given(given(a.Net, boundBadly(f)), toldNothing(f))
		a.Entries = append([]impl.Entry{{Name: "bad", Root: boundBadly(f)[0].Root}, {Name: "few", Root: rootsOf(f, "never brought")[0]}}, a.Entries...)
		a = withEntries(a, impl.Entry{Name: "none"}, impl.Entry{Name: "tells.none", Root: toldNothing(f)[0].Root}, impl.Entry{Name: "x", Root: "no root at all"})
		checkArchive(t, a, true, "entries of other roots")
		bad := []impl.Piece{boundBadly(f)[0], boundBadly(f)[2*f]}
		for _, lies := range [][]impl.Piece{nil, {}, bad, slices.Repeat(bad, 20)} {
			checkArcGet(t, a, "kept", lies, "kept", impl.ArcDone)
			checkArcGet(t, a, "bad", lies, "", impl.ArcBad)
			checkArcGet(t, a, "tells.none", lies, "", impl.ArcBad)
			for _, name := range []string{"few", "none", "x"} {
				checkArcGet(t, a, name, lies, "", impl.ArcLost)
			}
			for _, name := range append(noNames(), "kep", "kept.", "a", "z", "tells", "bad.none") {
				checkArcGet(t, a, name, lies, "", impl.ArcNone)
			}
		}
		pieces := longPieces(f+1, longEncode("never brought", f+1, 3*f+1))
		checkArcGet(t, a, "few", pieces[2*f:], "never brought", impl.ArcDone)
		many := slices.Repeat(pieces, 41)
		checkArcGet(t, a, "few", many[:40], "never brought", impl.ArcDone)
		for _, name := range []string{"few", "kept", "bad", "tells.none", "x"} { // more lies than may be added
			checkArcGet(t, a, name, many[:41], "", impl.ArcLost)
		}
		checkArcGet(t, a, "no.entry", many[:41], "", impl.ArcNone)
	})
}

// Two names with one text: each has its entry, and goes its own way.
func TestArchiveTwoNamesWithOneText(t *testing.T) {
	eachLiars(func(f int, liars []int) {
		a := filed(t, f, liars, label{"b", "one text"}, label{"a", "one text"}, label{"c", "another"})
		checkFiled(t, a, label{"a", "one text"}, label{"b", "one text"}, label{"c", "another"})
		checkFiled(t, checkDrop(t, a, "a", 0), label{"b", "one text"}, label{"c", "another"})
		checkFiled(t, checkPut(t, a, "b", "put anew", 0), label{"a", "one text"}, label{"b", "put anew"}, label{"c", "another"})
		id := honestOf(a.Net)[1]
		checkFiled(t, checkArcRepair(t, checkArcWipe(t, a, id, 0), id, 2), label{"a", "one text"}, label{"b", "one text"}, label{"c", "another"})
		checkFiled(t, checkArcMove(t, a, 2, []int{4}, 0), label{"a", "one text"}, label{"b", "one text"}, label{"c", "another"})
		want := impl.AuditAll(a.Net, []string{"one text", "one text", "another"}, "x", nil)
		checkArcAudit(t, a, "x", want)
		if want[id].Good != 3 {
			t.Fatalf("the marks are %v", want)
		}
	})
}

// Every other name is as it was, and what the nodes have stays.
func TestArchiveDropsOneName(t *testing.T) {
	labels := []label{{"a", "first"}, {"b", ""}, {"c.1", "third"}, {"d", strings.Repeat("x", 2000)}, {"e", "first"}}
	eachLiars(func(f int, liars []int) {
		a := filed(t, f, liars, labels...)
		a.Marks = someMarks()
		for i, l := range labels {
			got := checkDrop(t, a, l.name, impl.ArcDone)
			checkFiled(t, got, slices.Delete(slices.Clone(labels), i, i+1)...)
			checkArcGet(t, got, l.name, nil, "", impl.ArcNone)
			checkDrop(t, got, l.name, impl.ArcNone)
			if !sameNet(got.Net, a.Net) || !slices.Equal(got.Marks, someMarks()) {
				t.Fatalf("behind ArcDrop the archive is %s, want %s", briefArchive(got), briefArchive(a))
			}
			checkFiled(t, checkPut(t, got, l.name, l.text, impl.ArcDone), labels...)
		}
		for _, name := range append(noNames(), "c", "c.", "c.11", "0", "aa", "f", "zz") {
			checkDrop(t, a, name, impl.ArcNone)
		}
		for _, l := range labels {
			a = checkDrop(t, a, l.name, impl.ArcDone)
		}
		checkFiled(t, a)
		checkDrop(t, a, "a", impl.ArcNone)
	})
}

func TestArchiveDropOfAnEntryThatIsLost(t *testing.T) {
	a := withEntries(filed(t, 1, nil, label{"a", "kept"}), impl.Entry{Name: "b", Root: "no root", Size: -5}, impl.Entry{Name: "c"})
	checkFiled(t, checkDrop(t, checkDrop(t, a, "c", impl.ArcDone), "b", impl.ArcDone), label{"a", "kept"})
}

func TestArchiveWipesOneNode(t *testing.T) {
	eachLiars(func(f int, liars []int) {
		a := filed(t, f, liars, label{"a", "first"}, label{"b", "second"})
		a.Marks = someMarks()
		for id := range a.Net.Nodes { // a liar, too
			got := checkArcWipe(t, a, id, impl.ArcDone)
			if len(got.Net.Nodes[id].Slots) != 0 || !slices.Equal(got.Entries, a.Entries) || !slices.Equal(got.Marks, someMarks()) {
				t.Fatalf("behind ArcWipe of node %d the archive is %s", id, briefArchive(got))
			}
			checkArchive(t, got, true, "a node was wiped")
			if again := checkArcWipe(t, got, id, impl.ArcDone); !sameArchive(again, got) {
				t.Fatalf("ArcWipe of a node that was wiped = %s", briefArchive(again))
			}
			all := otherArchive(a, func(a *impl.Archive) { a.Net.Nodes[id] = fullNode(t, id, f, 7) })
			checkArcWipe(t, all, id, impl.ArcDone)
		}
		for _, id := range noIds(f) {
			if got := checkArcWipe(t, a, id, impl.ArcNode); !sameArchive(got, a) {
				t.Fatalf("ArcWipe of node %d = %s", id, briefArchive(got))
			}
			checkArcWipe(t, startedArchive(t, f, liars), id, impl.ArcNode)
		}
		checkArcWipe(t, startedArchive(t, f, liars), 3*f, impl.ArcDone)
	})
}

// Each node that is no liar is helped with every root that it lacks, and with nothing on the way behind it another one may be wiped.
func TestArchiveRepairsANode(t *testing.T) {
	labels := []label{{"a", "first"}, {"b", ""}, {"c", strings.Repeat("y", 500)}}
	eachLiars(func(f int, liars []int) {
		a := filed(t, f, liars, labels...)
		a.Marks = someMarks()
		for _, id := range honestOf(a.Net) {
			checkArcRepair(t, a, id, 0)
			w := checkArcWipe(t, a, id, impl.ArcDone)
			got := checkArcRepair(t, w, id, 3)
			checkFiled(t, got, labels...)
			if len(got.Net.Way) != 0 || !slices.Equal(got.Marks, someMarks()) {
				t.Fatalf("behind ArcRepair the archive is %s", briefArchive(got))
			}
			checkRepaired(t, a.Net, got.Net, id, entryRoots(a))
			checkArcRepair(t, got, id, 0)
			one := checkPut(t, w, "b", "", impl.ArcDone) // it has this one again
			checkArcRepair(t, one, id, 2)
			fewer := checkDrop(t, w, "c", impl.ArcDone) // nobody asks for this one
			checkArcRepair(t, fewer, id, 2)
			none := otherArchive(w, func(a *impl.Archive) { a.Entries = nil })
			checkArcRepair(t, none, id, 0)
		}
		for _, id := range honestOf(a.Net) { // one after the other: nothing is lost on the way
			a = checkArcRepair(t, checkArcWipe(t, a, id, impl.ArcDone), id, 3)
			checkFiled(t, a, labels...)
		}
	})
}

func TestArchiveRepairOfNobody(t *testing.T) {
	eachLiars(func(f int, liars []int) {
		a := filed(t, f, liars, label{"a", "kept"})
		none := startedArchive(t, f, liars)
		for _, id := range append(noIds(f), liars...) {
			if got := checkArcRepair(t, a, id, -1); !sameArchive(got, a) {
				t.Fatalf("ArcRepair of node %d = %s", id, briefArchive(got))
			}
			checkArcRepair(t, none, id, -1)
		}
		for _, liar := range liars {
			checkArcRepair(t, checkArcWipe(t, a, liar, impl.ArcDone), liar, -1)
		}
		for _, id := range honestOf(none.Net) {
			checkArcRepair(t, none, id, 0)
		}
	})
}

// A node is helped with what can be made again, and with nothing else.
func TestArchiveRepairWithEntriesThatAreLost(t *testing.T) {
	eachLiars(func(f int, liars []int) {
		a := filed(t, f, liars, label{"m", "kept"})
		a.Net = given(given(a.Net, boundBadly(f)), toldNothing(f))
		a.Entries = append([]impl.Entry{{Name: "bad", Root: boundBadly(f)[0].Root}, {Name: "few", Root: rootsOf(f, "never brought")[0]}}, a.Entries...)
		a = withEntries(a, impl.Entry{Name: "n"}, impl.Entry{Name: "z", Root: "no root"})
		for _, id := range honestOf(a.Net) {
			w := checkArcWipe(t, a, id, impl.ArcDone)
			checkArcRepair(t, w, id, 1)
			checkArcRepair(t, withEntries(w, impl.Entry{Name: "zz", Root: toldNothing(f)[0].Root}), id, 2) // its bodies go together, though they tell no text
		}
		lost := a
		for _, id := range honestOf(a.Net)[f:] {
			lost = checkArcWipe(t, lost, id, impl.ArcDone)
		}
		checkArcRepair(t, lost, honestOf(a.Net)[f], 0)
	})
}

// Thirty roots of which all ten nodes lack one echo: each is ready at the helped node's, and all that is said then is just MaxWay.
func TestArchiveRepairUpToMaxWay(t *testing.T) {
	texts := numberedTexts(30)
	a, want := startedArchive(t, 3, nil), settled(3, nil, texts)
	for i, root := range rootsOf(3, texts...) {
		a.Entries = append(a.Entries, impl.Entry{Name: fmt.Sprintf("n%02d", i), Root: root})
		for id := range want.Nodes {
			slot := cloneSlot(want.Nodes[id].Slots[i])
			slot.Readied, slot.Done, slot.Readies, slot.Echoes = false, false, nil, []int{1, 2, 3, 4, 5, 6}
			if id == 0 {
				slot.Has, slot.Echoed, slot.Piece = false, false, impl.Piece{}
			}
			a.Net.Nodes[id].Slots = append(a.Net.Nodes[id].Slots, slot)
			want.Nodes[id].Slots[i].Echoes = []int{0, 1, 2, 3, 4, 5, 6}
		}
	}
	checkArchive(t, a, true, "nodes that lack one echo")
	got, helped := impl.ArcRepair(a, 0)
	if helped != 30 || !sameNet(got.Net, want) {
		t.Fatalf("ArcRepair = %s, %d", briefArchive(got), helped)
	}
	checkArchive(t, got, true, "all is heard")
}

// A node with MaxSlots slots hears a piece of a new root and makes nothing of it.
func TestArchiveRepairOfAFullNode(t *testing.T) {
	for f := 1; f <= 3; f++ {
		a := filed(t, f, []int{0}, label{"a", "slot 1"}, label{"b", "slot 2"}, label{"c", "slot 3"})
		a.Net.Nodes[2] = fullNode(t, 2, f, 40) // it has no piece of the first two
		got := checkArcRepair(t, a, 2, 2)
		for _, text := range []string{"slot 1", "slot 2", "slot 3"} {
			if !longSlot(got.Net.Nodes[2], rootsOf(f, text)[0]).Has {
				t.Fatalf("node 2 has no piece of %q", text)
			}
		}
		other := filed(t, f, []int{0}, label{"a", "new to it"})
		other.Net.Nodes[2] = fullNode(t, 2, f, 40)
		if got := checkArcRepair(t, other, 2, 1); !sameArchive(got, other) {
			t.Fatalf("a full node is %s", brief(got.Net.Nodes[2]))
		}
	}
}

// Every text is got there by its name, each entry has its new root and its old size, and the marks are gone.
func TestArchiveMoves(t *testing.T) {
	labels := []label{{"a", "first"}, {"b.2", ""}, {"c", strings.Repeat("z", 2000)}, {"d", "first"}}
	d := drawer(184)
	eachLiars(func(f int, liars []int) {
		a := filed(t, f, liars, labels...)
		a.Marks = someMarks()
		for g := 1; g <= 3; g++ {
			sets := someLiars(g)
			others := sets[d.below(len(sets))]
			w := checkArcWipe(t, a, honestOf(a.Net)[d.below(f)], impl.ArcDone)
			for _, from := range []impl.Archive{a, w} {
				got := checkArcMove(t, from, g, others, 0)
				checkFiled(t, got, labels...)
				if want := settled(g, others, textsUnder(labels)); len(got.Marks) != 0 || !sameNet(got.Net, want) {
					t.Fatalf("the new archive is %s", briefArchive(got))
				}
			}
		}
	})
}

func TestArchiveMovesOnAndOn(t *testing.T) {
	d := drawer(185)
	labels := []label{{"a", d.text(5)}, {"b", d.text(100)}, {"c", ""}, {"d", d.text(999)}}
	a := filed(t, 1, []int{3}, labels...)
	for round := range 10 {
		f := 1 + d.below(3)
		liars := d.order(3*f + 1)[:d.below(f+1)]
		slices.Sort(liars)
		honest := honestOf(a.Net)
		a = checkArcWipe(t, a, honest[d.below(len(honest))], impl.ArcDone)
		a = checkArcMove(t, a, f, liars, 0)
		labels[round%4].text = d.text(d.below(50))
		a = checkPut(t, a, labels[round%4].name, labels[round%4].text, impl.ArcDone)
		checkFiled(t, a, labels...)
	}
}

// Entries of which nothing is told are left out and counted; the names behind them stay with their own texts.
func TestArchiveMoveOfWhatIsLost(t *testing.T) {
	eachLiars(func(f int, liars []int) {
		a := filed(t, f, liars, label{"b", "first"}, label{"e", "second"}, label{"g", "lost"})
		honest := honestOf(a.Net)
		for _, id := range honest[f:] {
			a = checkArcWipe(t, a, id, impl.ArcDone)
		}
		checkArcMove(t, a, 1, []int{2}, 3)
		a = checkPut(t, checkPut(t, a, "b", "first", 0), "e", "second", 0)
		a.Net = given(given(a.Net, boundBadly(f)), toldNothing(f))
		a.Marks = someMarks()
		a.Entries = slices.Concat([]impl.Entry{{Name: "a", Root: boundBadly(f)[0].Root}}, a.Entries[:1], []impl.Entry{{Name: "c"}, {Name: "d", Root: toldNothing(f)[0].Root, Size: 9}}, a.Entries[1:])
		for g := 1; g <= 3; g++ {
			got := checkArcMove(t, a, g, []int{1}, 4)
			checkFiled(t, got, label{"b", "first"}, label{"e", "second"})
			if len(got.Marks) != 0 {
				t.Fatalf("the marks are %v", got.Marks)
			}
		}
		none := otherArchive(a, func(a *impl.Archive) { a.Entries = nil })
		got := checkArcMove(t, none, 2, []int{3}, 0)
		if !sameArchive(got, startedArchive(t, 2, []int{3})) {
			t.Fatalf("ArcMove of no entries = %s", briefArchive(got))
		}
	})
}

// The size of an entry is not asked for: it goes with the name.
func TestArchiveMoveKeepsSizes(t *testing.T) {
	a := filed(t, 1, nil, label{"a", "four"}, label{"b", "bytes"})
	a.Entries[0].Size, a.Entries[1].Size = -7, math.MaxInt
	got := checkArcMove(t, a, 2, nil, 0)
	if got.Entries[0].Size != -7 || got.Entries[1].Size != math.MaxInt {
		t.Fatalf("the entries are %s", brief(got.Entries))
	}
}

func TestArchiveMoveRefuses(t *testing.T) {
	eachLiars(func(f int, liars []int) {
		a := filed(t, f, liars, label{"a", "not moved"})
		a.Marks = someMarks()
		for _, g := range noFaults {
			for _, others := range [][]int{nil, {}, {0}, {1}} {
				if got := checkArcMove(t, a, g, others, -1); !sameArchive(got, a) {
					t.Fatalf("ArcMove to F %d = %s", g, briefArchive(got))
				}
				checkArcMove(t, startedArchive(t, f, liars), g, others, -1)
			}
		}
		for g := 1; g <= 3; g++ {
			for _, others := range notLiars(g) {
				checkArcMove(t, a, g, others, -1)
			}
		}
	})
}

func TestArchiveMoveUpToMaxNames(t *testing.T) {
	labels := numberedLabels(30)
	for f := 1; f <= 3; f++ {
		a := filed(t, f, []int{f}, labels...)
		for _, c := range []struct {
			f     int
			liars []int
		}{{1, nil}, {2, []int{0, 1}}, {3, []int{4}}} {
			got, left := impl.ArcMove(a, c.f, c.liars)
			if left != 0 || !sameNet(got.Net, settled(c.f, c.liars, textsUnder(labels))) {
				t.Fatalf("ArcMove to F %d with the liars %v = %s, %d", c.f, c.liars, briefArchive(got), left)
			}
			checkFiled(t, got, labels...)
		}
		got, left := impl.ArcMove(checkDrop(t, a, "n07", impl.ArcDone), 3, nil)
		if left != 0 {
			t.Fatalf("%d were left out", left)
		}
		checkFiled(t, got, slices.Delete(slices.Clone(labels), 7, 8)...)
	}
}

// Thirty texts moved at once to ten nodes of whom none lies: Move ends with something on its way there, so what comes out is not ArchiveOk, though its net has all to be had.
func TestArchiveMoveOfThirtyTextsToTenNodes(t *testing.T) {
	labels := numberedLabels(30)
	a := filed(t, 1, []int{1}, labels...)
	got := checkArcMove(t, a, 3, nil, 0)
	if len(got.Net.Way) == 0 || len(got.Entries) != 30 {
		t.Fatalf("ArcMove = %s", briefArchive(got))
	}
	checkArchive(t, got, false, "something is on its way")
	for i, l := range labels {
		checkGet(t, got.Net, got.Entries[i].Root, nil, l.text, impl.GetOk)
	}
	got.Net.Way = nil
	checkFiled(t, got, labels...)
}

// roundsOf are marks of nodes that answered well so often, but for those that answered badly as often.
func roundsOf(f int, bad []int, count int) []impl.Mark {
	marks := oneMarkEach(f, bad)
	for i := range marks {
		marks[i].Good, marks[i].Bad, marks[i].Row = marks[i].Good*count, marks[i].Bad*count, marks[i].Row*count
	}
	return marks
}

func TestArchiveAudits(t *testing.T) {
	eachLiars(func(f int, liars []int) {
		a := filed(t, f, liars, label{"a", "first"}, label{"b", ""}, label{"c", "third"})
		marked := checkArcAudit(t, a, "x", roundsOf(f, liars, 3))
		if !slices.Equal(impl.Suspects(marked.Marks, 1), withAll(liars)) || !slices.Equal(marked.Entries, a.Entries) || !sameNet(marked.Net, a.Net) {
			t.Fatalf("behind ArcAudit the archive is %s", briefArchive(marked))
		}
		marked = checkArcAudit(t, marked, "another salt", roundsOf(f, liars, 6)) // several in a row
		marked = checkArcAudit(t, marked, "", roundsOf(f, liars, 9))
		checkFiled(t, marked, label{"a", "first"}, label{"b", ""}, label{"c", "third"})
		for id := range a.Net.Nodes {
			w := checkArcWipe(t, a, id, impl.ArcDone)
			w = checkArcAudit(t, w, "x", roundsOf(f, withAll(liars, id), 3))
			w = checkArcAudit(t, w, "x", roundsOf(f, withAll(liars, id), 6))
			if slices.Contains(liars, id) {
				continue
			}
			w = checkArcRepair(t, w, id, 3) // well again: its row ends, what it did badly stays
			want := roundsOf(f, liars, 9)
			want[id] = impl.Mark{Node: id, Good: 3, Bad: 6}
			w = checkArcAudit(t, w, "x", want)
			if !slices.Equal(impl.Suspects(w.Marks, 1), withAll(liars)) {
				t.Fatalf("the marks are %v", w.Marks)
			}
		}
	})
}

// Marks are gone on with whatever they are, text by text in the order of the entries.
func TestArchiveAuditGoesOnWithMarks(t *testing.T) {
	a := filed(t, 1, []int{3}, label{"b", "later"}, label{"a", "lost by one"}, label{"c", "lost by one, too"})
	a = checkArcWipe(t, a, 1, impl.ArcDone)
	a = checkPut(t, a, "b", "new to all", impl.ArcDone)
	a.Marks = []impl.Mark{{Node: -4, Good: 1}, {Node: 1, Good: 5, Bad: 2, Row: 2}, {Node: 9, Row: 3}}
	want := []impl.Mark{{Node: -4, Good: 1}, {Node: 0, Good: 3}, {Node: 1, Good: 6, Bad: 4, Row: 1}, {Node: 2, Good: 3}, {Node: 3, Bad: 3, Row: 3}, {Node: 9, Row: 3}}
	checkArcAudit(t, a, "x", want)
	a = checkPut(t, checkPut(t, a, "c", "new to all", impl.ArcDone), "a", "new to all", impl.ArcDone)
	want[2] = impl.Mark{Node: 1, Good: 8, Bad: 2}
	checkArcAudit(t, a, "x", want)
	a.Marks = []impl.Mark{{Node: 9}, {Node: 2, Bad: 1, Row: 1}, {Node: 2, Good: 5}, {Node: -6}}
	checkArcAudit(t, a, "x", impl.AuditAll(a.Net, slices.Repeat([]string{"new to all"}, 3), "x", a.Marks))
}

// Nobody is asked for a text that is lost; who has it still is not the worse for that.
func TestArchiveAuditOfWhatIsLost(t *testing.T) {
	eachLiars(func(f int, liars []int) {
		a := filed(t, f, liars, label{"a", "lost"}, label{"m", "kept"})
		for _, id := range honestOf(a.Net)[f:] {
			a = checkArcWipe(t, a, id, impl.ArcDone)
		}
		checkArcAudit(t, a, "x", nil)
		marked := otherArchive(a, func(a *impl.Archive) { a.Marks = someMarks() })
		checkArcAudit(t, marked, "x", someMarks())
		a = checkPut(t, a, "m", "kept", impl.ArcDone)
		a.Net = given(given(a.Net, boundBadly(f)), toldNothing(f))
		a = withEntries(a, impl.Entry{Name: "n", Root: boundBadly(f)[0].Root}, impl.Entry{Name: "o", Root: toldNothing(f)[0].Root}, impl.Entry{Name: "p"}, impl.Entry{Name: "q", Root: "none"})
		checkArcAudit(t, a, "x", roundsOf(f, liars, 1))
	})
}

func TestArchiveAuditBySalt(t *testing.T) {
	a := filed(t, 1, []int{0}, label{"a", "salted"})
	a.Marks = someMarks()
	for _, salt := range someSalts() {
		checkArcAudit(t, a, salt, impl.AuditAll(a.Net, []string{"salted"}, salt, someMarks()))
	}
	for _, salt := range noSalts() {
		checkArcAudit(t, a, salt, someMarks())
	}
	none := otherArchive(startedArchive(t, 2, nil), func(a *impl.Archive) { a.Marks = someMarks() })
	checkArcAudit(t, none, "x", someMarks())
	checkArcAudit(t, startedArchive(t, 3, nil), "x", nil)
}

// The document wants no right archive of ArcList: what stands there is told.
func TestArchiveListsAnyEntries(t *testing.T) {
	checkList(t, impl.Archive{}, "")
	for _, c := range []struct {
		entry impl.Entry
		want  string
	}{
		{impl.Entry{}, " 0 \n"},
		{impl.Entry{Name: "a", Root: "\x00\xff", Size: 10}, "a 10 00ff\n"},
		{impl.Entry{Name: "A b\n", Root: allBytes()[:20], Size: -1}, "A b\n -1 000102030405060708090a0b0c0d0e0f10111213\n"},
		{impl.Entry{Name: "z.9", Size: math.MaxInt}, "z.9 9223372036854775807 \n"},
		{impl.Entry{Name: "\xff", Root: "~", Size: math.MinInt}, "\xff -9223372036854775808 7e\n"},
	} {
		checkList(t, impl.Archive{Entries: []impl.Entry{c.entry}}, c.want)
		checkList(t, impl.Archive{Entries: []impl.Entry{c.entry, {Name: "b", Root: "b", Size: 1}, c.entry}}, c.want+"b 1 62\n"+c.want)
	}
	many := slices.Repeat([]impl.Entry{{Name: "n", Root: "\x10", Size: 5}}, 100)
	checkList(t, impl.Archive{Entries: many}, strings.Repeat("n 5 10\n", 100))
}

// wrong is an archive that is not ArchiveOk, and why.
type wrong struct {
	why     string
	archive impl.Archive
}

// wrongEntries are archives whose entries are not as told.
func wrongEntries(a impl.Archive) []wrong {
	list := []wrong{}
	with := func(why string, names ...string) {
		entries := []impl.Entry{}
		for _, name := range names {
			entries = append(entries, impl.Entry{Name: name, Root: a.Entries[0].Root, Size: a.Entries[0].Size})
		}
		list = append(list, wrong{why, otherArchive(a, func(a *impl.Archive) { a.Entries = entries })})
	}
	with("not ascending", "b", "a")
	with("not ascending", "a", "c", "b")
	with("not ascending", "b", "a", "c")
	with("not ascending", "a", "a0", "a.")
	with("two of one name", "a", "a")
	with("two of one name", "a", "b", "b")
	with("two of one name, apart", "a", "b", "a")
	for _, name := range noNames() {
		with("a name that is none", name)
		with("a name that is none, among others", slices.Sorted(slices.Values([]string{"a", name, "b"}))...)
	}
	names := []string{}
	for i := range 40 {
		names = append(names, fmt.Sprintf("n%02d", i))
	}
	with("a name too many", names[:31]...)
	with("many names", names...)
	return list
}

// wrongArchives break one sentence each.
func wrongArchives(a impl.Archive) []wrong {
	list := []wrong{{"the zero value", impl.Archive{}}}
	for _, b := range slices.Concat(numberBreaches(a.Net), nodeBreaches(a.Net), otherBreaches(a.Net)) {
		list = append(list, wrong{b.why, impl.Archive{Net: b.net, Entries: a.Entries, Marks: a.Marks}})
	}
	for _, s := range []impl.Say{{}, {Kind: 1, From: 0, To: 1, Root: a.Entries[0].Root}, {Kind: 9, From: -5, To: 99}} {
		list = append(list, wrong{"something is on its way", impl.Archive{Net: onWay(a.Net, s), Entries: a.Entries, Marks: a.Marks}})
	}
	list = append(list, wrong{"much is on its way", impl.Archive{Net: filled(a.Net, 3000), Entries: a.Entries, Marks: a.Marks}})
	return append(list, wrongEntries(a)...)
}

func TestArchiveOkOfRightOnes(t *testing.T) {
	eachLiars(func(f int, liars []int) {
		a := filed(t, f, liars, label{"a", "first"}, label{"b", "second"})
		for id := range a.Net.Nodes {
			checkArchive(t, checkArcWipe(t, a, id, 0), true, "a node was wiped")
		}
		for _, marks := range [][]impl.Mark{nil, someMarks(), {{Node: 7}, {Node: -1, Row: -9}, {Node: 7}}} {
			a.Marks = marks
			checkArchive(t, a, true, "any marks")
		}
		for _, e := range []impl.Entry{{Name: "c"}, {Name: "c", Root: "no root", Size: -1}, {Name: "c", Root: a.Entries[0].Root, Size: math.MaxInt}, {Name: "c", Root: strings.Repeat("r", 99), Size: math.MinInt}} {
			checkArchive(t, withEntries(a, e), true, "any root and size")
		}
		many := otherArchive(a, func(a *impl.Archive) { a.Entries = nil })
		for _, l := range numberedLabels(30) {
			many = withEntries(many, impl.Entry{Name: l.name})
		}
		checkArchive(t, many, true, "as many names as there may be")
	})
}

// Each function answers a wrong archive in its one way, whatever else it is given.
func TestArchiveThatIsNotRight(t *testing.T) {
	for _, c := range []struct {
		f     int
		liars []int
	}{{1, nil}, {1, []int{3}}, {2, []int{0, 5}}, {3, []int{2}}} {
		a := filed(t, c.f, c.liars, label{"a", "first"}, label{"b", "second"})
		a.Marks = someMarks()
		id := honestOf(a.Net)[1]
		for _, w := range wrongArchives(a) {
			checkArchive(t, w.archive, false, w.why)
			for _, name := range []string{"a", "b", "c", "n00", "A", ""} {
				checkPut(t, w.archive, name, "text", impl.ArcBad)
				checkArcGet(t, w.archive, name, nil, "", impl.ArcNone)
				checkDrop(t, w.archive, name, impl.ArcNone)
			}
			checkPut(t, w.archive, "a", strings.Repeat("x", 2001), impl.ArcBad)
			checkArcGet(t, w.archive, "a", longPieces(c.f+1, longEncode("first", c.f+1, 3*c.f+1)), "", impl.ArcNone)
			for _, id := range []int{0, id, 3 * c.f, 3*c.f + 1, -1} {
				checkArcWipe(t, w.archive, id, impl.ArcNode)
				checkArcRepair(t, w.archive, id, -1)
			}
			checkArcMove(t, w.archive, 1, nil, -1)
			checkArcMove(t, w.archive, c.f, c.liars, -1)
			checkArcMove(t, w.archive, 0, nil, -1)
			checkArcAudit(t, w.archive, "x", w.archive.Marks)
			checkList(t, w.archive, longList(w.archive))
		}
	}
}

// drawnArchive draws one that is right more often than not, with entries of texts that its nodes have more or less.
func (d *drawer) drawnArchive(f int, texts [][]impl.Say) impl.Archive {
	a := impl.Archive{Net: d.wornNet(f, texts), Marks: d.marks()}
	if d.below(6) != 0 {
		a.Net.Way = nil
	}
	for i, root := range d.drawnRoots(texts, d.below(7)) {
		a.Entries = append(a.Entries, impl.Entry{Name: string(rune('a'+i)) + []string{"", ".", "9"}[d.below(3)], Root: root, Size: d.below(3000) - 5})
	}
	if count := len(a.Entries); count > 0 && d.below(8) == 0 {
		a.Entries[d.below(count)].Name = append(noNames(), "b", "a")[d.below(20)]
	}
	return a
}

// checkAny wants all that is answered of an archive to be as it was reckoned apart. It tells the numbers.
func checkAny(t *testing.T, d *drawer, a impl.Archive, texts [][]impl.Say) map[string]int {
	t.Helper()
	told := map[string]int{}
	names := []string{"a", "a.", "b", "b9", "c", "d", "A"}
	for range 3 {
		name := names[d.below(len(names))]
		if len(a.Entries) > 0 && d.below(2) == 0 {
			name = a.Entries[d.below(len(a.Entries))].Name
		}
		data := d.text(d.below(20))
		_, code := longPut(a, name, data)
		checkPut(t, a, name, data, code)
		told["put "+strconv.Itoa(code)]++
		lies := d.lies(texts[d.below(len(texts))], texts)
		text, code := longArcGet(a, name, lies)
		checkArcGet(t, a, name, lies, text, code)
		told["get "+strconv.Itoa(code)]++
		_, code = longDrop(a, name)
		checkDrop(t, a, name, code)
		told["drop "+strconv.Itoa(code)]++
		id := d.below(12) - 1
		_, code = longArcWipe(a, id)
		checkArcWipe(t, a, id, code)
		told["wipe "+strconv.Itoa(code)]++
		_, helped := longArcRepair(a, id)
		checkArcRepair(t, a, id, helped)
		told["repair "+strconv.Itoa(helped)]++
	}
	liars := d.order(10)[:d.below(3)]
	slices.Sort(liars)
	g := 1 + d.below(3)
	_, left := longArcMove(a, g, liars)
	checkArcMove(t, a, g, liars, left)
	told["move "+strconv.Itoa(left)]++
	checkArcAudit(t, a, "x", longArcAudit(a, "x").Marks)
	checkList(t, a, longList(a))
	return told
}

func TestArchiveAnyArchive(t *testing.T) {
	d := drawer(186)
	right, told := map[bool]int{}, map[string]int{}
	for round := range 300 {
		f := 1 + round%3
		texts := d.drawnCuttings(f, 4)
		a := d.drawnArchive(f, texts)
		right[longArchiveOk(a)]++
		checkArchive(t, a, longArchiveOk(a), "drawn")
		for what, count := range checkAny(t, &d, a, texts) {
			told[what] += count
		}
	}
	for _, what := range []string{"put 0", "put 1", "put 6", "get 0", "get 4", "get 5", "get 6", "drop 0", "drop 4", "wipe 0", "wipe 7", "repair -1", "repair 0", "repair 1", "move -1", "move 0", "move 1"} {
		if told[what] < 20 {
			t.Errorf("only %d times %s: the test has grown weak", told[what], what)
		}
	}
	if right[true] < 100 || right[false] < 60 {
		t.Errorf("%v archives are right: the test has grown weak", right)
	}
}

// session is an archive with one liar in use, and what is to be got of it.
type session struct {
	archive impl.Archive
	texts   map[string]string
	lost    map[int]int // who was wiped since all had all
}

func (s *session) mostLostOne() bool {
	count := len(s.lost)
	for _, liar := range s.archive.Net.Liars {
		if s.lost[liar] > 0 {
			count--
		}
	}
	return count <= 1
}

// step does something drawn, and wants it to be as reckoned apart.
func (s *session) step(t *testing.T, d *drawer) {
	t.Helper()
	name := []string{"a", "b", "c", "d", "e"}[d.below(5)]
	nodes := len(s.archive.Net.Nodes)
	switch d.below(8) {
	case 0, 1, 2:
		data := d.text(d.below(30))
		_, code := longPut(s.archive, name, data)
		s.archive = checkPut(t, s.archive, name, data, code)
		if code == impl.ArcDone {
			s.texts[name] = data
		}
	case 3:
		_, code := longDrop(s.archive, name)
		s.archive = checkDrop(t, s.archive, name, code)
		delete(s.texts, name)
	case 4:
		id := d.below(nodes)
		s.archive = checkArcWipe(t, s.archive, id, impl.ArcDone)
		s.lost[id]++
	case 5, 6:
		for _, id := range slices.Sorted(maps.Keys(s.lost)) {
			_, helped := longArcRepair(s.archive, id)
			s.archive = checkArcRepair(t, s.archive, id, helped)
		}
		if s.mostLostOne() {
			s.lost = map[int]int{}
		}
	case 7:
		f := 1 + d.below(3)
		_, left := longArcMove(s.archive, f, nil)
		liar := d.below(3*f + 1)
		s.archive = checkArcMove(t, s.archive, f, []int{liar}, left)
		if s.mostLostOne() && left != 0 {
			t.Fatalf("%d were left out", left)
		}
		for name := range s.texts {
			if longPlace(s.archive, name) < 0 {
				delete(s.texts, name)
			}
		}
		s.lost = map[int]int{}
	}
}

// Whatever is done to an archive with one liar: where at most one other node has lost what it had, each name has the text that was put last, and no other name has any.
func TestArchiveInUse(t *testing.T) {
	d := drawer(187)
	got := map[int]int{}
	for round := range 15 {
		f := 1 + round%3
		s := session{startedArchive(t, f, []int{d.below(3*f + 1)}), map[string]string{}, map[int]int{}}
		for range 30 {
			s.step(t, &d)
			checkArchive(t, s.archive, true, "in use")
			if len(s.archive.Entries) != len(s.texts) {
				t.Fatalf("the entries are %s, want those of %q", brief(s.archive.Entries), s.texts)
			}
			for name, data := range s.texts {
				text, code := impl.ArcGet(s.archive, name, nil)
				if code == impl.ArcDone && text != data || code != impl.ArcDone && (code != impl.ArcLost || s.mostLostOne()) {
					t.Fatalf("ArcGet of %q = %q, %d, want %q; %v were wiped, the archive is %s", name, text, code, data, s.lost, briefArchive(s.archive))
				}
				got[code]++
			}
		}
	}
	if got[impl.ArcDone] < 300 || got[impl.ArcLost] < 20 {
		t.Errorf("so many of each code: %v: the test has grown weak", got)
	}
}

// roomyArchive is one with spare room behind each of its lists, and a look at all of that memory.
func roomyArchive(a impl.Archive) (impl.Archive, func() impl.Archive) {
	net, look := roomyNet(a.Net)
	entries := append(slices.Clone(a.Entries), impl.Entry{Name: "spare room"}, impl.Entry{Name: "more of it"}, impl.Entry{})
	marks, memory := roomyMarks(a.Marks)
	lookAtAll := func() impl.Archive {
		return impl.Archive{Net: look(), Entries: slices.Clone(entries), Marks: slices.Clone(memory)}
	}
	return impl.Archive{Net: net, Entries: entries[:len(a.Entries)], Marks: marks}, lookAtAll
}

func writeOverArchive(a impl.Archive) {
	writeOverNet(a.Net)
	for i := range a.Entries[:cap(a.Entries)] {
		a.Entries[:cap(a.Entries)][i] = impl.Entry{Name: "written over", Size: 55}
	}
	writeOverMarks(a.Marks)
}

// eachAnswer sees every archive that is answered of one, at arguments that are so and that are not.
func eachAnswer(a impl.Archive, names []string, liars []int, see func(what string, answer impl.Archive)) {
	for _, name := range names {
		for _, data := range []string{"put", strings.Repeat("x", 2001)} {
			got, _ := impl.ArcPut(a, name, data)
			see("put", got)
		}
		got, _ := impl.ArcDrop(a, name)
		see("drop", got)
	}
	for id := -1; id <= len(a.Net.Nodes); id++ {
		got, _ := impl.ArcWipe(a, id)
		see("wipe", got)
		got, _ = impl.ArcRepair(a, id)
		see("repair", got)
	}
	for f := range 4 {
		got, _ := impl.ArcMove(a, f, liars)
		see("move", got)
	}
	for _, salt := range []string{"x", strings.Repeat("s", 101)} {
		see("audit", impl.ArcAudit(a, salt))
	}
}

func TestArchiveWritesIntoNoArgument(t *testing.T) {
	d := drawer(188)
	for round := range 90 {
		f := 1 + round%3
		texts := d.drawnCuttings(f, 3)
		drawn := d.drawnArchive(f, texts)
		if round%4 == 0 {
			drawn = filed(t, f, []int{0}, label{"b", "second"}, label{"a", "first"})
			drawn.Net.Nodes[1].Slots = nil
		}
		a, look := roomyArchive(drawn)
		liars, memory := withRoom([]int{0, 2}[:d.below(3)])
		lies, memoryLies, proofs := roomyPieces(d.lies(texts[0], texts))
		kept, keptLiars, keptLies, keptProofs := look(), slices.Clone(memory), slices.Clone(memoryLies), cloneProofs(proofs)
		eachAnswer(a, []string{"a", "b", "c", "A"}, liars, func(what string, answer impl.Archive) {
			writeOverArchive(answer)
			if !sameArchive(look(), kept) {
				t.Fatalf("%s: the archive or the room behind it was written into: %s", what, briefArchive(a))
			}
		})
		for _, name := range []string{"a", "b", "c"} {
			impl.ArcGet(a, name, lies)
		}
		impl.ArchiveOk(a)
		impl.ArcList(a)
		if started, ok := impl.ArchiveStart(f, liars); ok {
			writeOverArchive(started)
		}
		if !sameArchive(look(), kept) || !slices.Equal(memory, keptLiars) || !slices.EqualFunc(memoryLies, keptLies, samePiece) || !slices.EqualFunc(proofs, keptProofs, slices.Equal[[]string]) {
			t.Fatalf("an argument or the room behind it was written into: %s, %v, %s", briefArchive(a), memory, brief(memoryLies))
		}
	}
}

func textsOfArchive(a impl.Archive) []string {
	texts := textsOfNet(a.Net)
	for _, e := range a.Entries {
		texts = append(texts, e.Name, e.Root)
	}
	return texts
}

func spansOfArchive(a impl.Archive) []span {
	return addSpan(addSpan(spansOf(a.Net), a.Entries), a.Marks)
}

// checkOwnArchive wants all of an archive that is answered to lie in memory of its own.
func checkOwnArchive(t *testing.T, answer impl.Archive, given impl.Archive, more ...string) {
	t.Helper()
	checkOwnTexts(t, textsOfArchive(answer), append(textsOfArchive(given), more...))
	checkOwnSpans(t, spansOfArchive(answer), spansOfArchive(given))
}

func TestArchiveAnswersAreNewMemory(t *testing.T) {
	d := drawer(189)
	for round := range 15 {
		f := 1 + round%2
		texts := d.drawnCuttings(f, 2)
		a := d.drawnArchive(f, texts)
		if round%3 != 0 {
			a = filed(t, f, []int{1}, label{"two", "second"}, label{"one", "first"}, label{"too", "second"})
			a.Net.Nodes[2].Slots, a.Marks = nil, someMarks()
		}
		for i := range a.Entries { // a name that stands in the argument's memory
			a.Entries[i].Name = strings.Clone(a.Entries[i].Name)
		}
		names, liars := []string{strings.Clone("one"), strings.Clone("three"), strings.Clone("NO")}, []int{0}
		eachAnswer(a, names, liars, func(what string, answer impl.Archive) {
			checkOwnArchive(t, answer, a, names...)
			checkOwnSpans(t, spansOf(answer.Net), addSpan(nil, liars))
		})
		lies := []impl.Piece{texts[0][0].Piece, texts[0][1].Piece}
		got, _ := impl.ArcGet(a, "one", lies)
		checkOwnTexts(t, []string{got, impl.ArcList(a)}, append(textsOfArchive(a), textsOf(lies...)...))
	}
	data := strings.Repeat("memory of its own", 9)
	a := filed(t, 1, nil, label{"a", data})
	got, _ := impl.ArcGet(a, "a", nil)
	checkOwnTexts(t, []string{got}, append(textsOfArchive(a), data))
	checkOwnTexts(t, textsOfArchive(a), []string{data})
	liars := []int{0, 2}
	checkOwnSpans(t, spansOfArchive(startedArchive(t, 2, liars)), addSpan(nil, liars))
}

// Lists and texts that an archive shares with itself are apart in what is answered.
func TestArchiveListsThatAreShared(t *testing.T) {
	n, brought := sharingNet()
	n.Way = nil
	root, name := brought[0].Root, "shared"
	a := impl.Archive{Net: n, Entries: []impl.Entry{{Name: name, Root: root, Size: 6}, {Name: name + "2", Root: root}, {Name: "shared.zzz"[:8] + "z", Root: root}}}
	slices.SortFunc(a.Entries, func(x impl.Entry, y impl.Entry) int { return strings.Compare(x.Name, y.Name) })
	for _, isWrong := range []bool{false, true} {
		if isWrong {
			a.Net.Nodes[3].Id = 2
		}
		checkArchive(t, a, !isWrong, "it shares lists")
		eachAnswer(a, []string{name, "other", "NO"}, a.Net.Liars, func(what string, answer impl.Archive) {
			checkOwnArchive(t, answer, a, name)
		})
	}
}

// Calls at the same time do not see each other.
func TestArchiveCallsAtOnce(t *testing.T) {
	a := filed(t, 1, []int{3}, label{"a", "first"}, label{"b", "second"})
	want, _ := longPut(a, "c", "third")
	var all sync.WaitGroup
	wrongs := make([]string, 16)
	for i := range wrongs {
		all.Add(1)
		go func() {
			defer all.Done()
			got, code := impl.ArcPut(a, "c", "third")
			text, gotCode := impl.ArcGet(a, []string{"a", "b"}[i%2], nil)
			marked := impl.ArcAudit(a, "x")
			if code != 0 || !sameArchive(got, want) || gotCode != 0 || text != []string{"first", "second"}[i%2] || len(marked.Marks) != 4 {
				wrongs[i] = fmt.Sprint(code, gotCode, text, briefArchive(got))
			}
		}()
	}
	all.Wait()
	for _, what := range wrongs {
		if what != "" {
			t.Fatal(what)
		}
	}
}

func TestArchiveKeepsNothing(t *testing.T) {
	for range 3 {
		a := filed(t, 1, []int{3}, label{"a", "first"})
		b := checkPut(t, a, "b", "second", impl.ArcDone)
		checkFiled(t, a, label{"a", "first"})
		checkArcGet(t, a, "b", nil, "", impl.ArcNone)
		checkFiled(t, b, label{"a", "first"}, label{"b", "second"})
		writeOverArchive(b)
		b = checkPut(t, a, "b", "second", impl.ArcDone)
		checkDrop(t, b, "a", impl.ArcDone)
		w := checkArcWipe(t, b, 1, impl.ArcDone)
		writeOverArchive(checkArcRepair(t, w, 1, 2))
		writeOverArchive(checkArcMove(t, w, 2, nil, 0))
		writeOverArchive(checkArcAudit(t, w, "x", roundsOf(1, []int{1, 3}, 2)))
		checkArcRepair(t, w, 1, 2)
		checkArcMove(t, w, 2, nil, 0)
		checkArcAudit(t, w, "x", roundsOf(1, []int{1, 3}, 2))
		checkFiled(t, b, label{"a", "first"}, label{"b", "second"})
		checkFiled(t, startedArchive(t, 1, []int{3}))
	}
}
