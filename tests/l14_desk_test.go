package tests

import (
	"cmp"
	"fmt"
	"regexp"
	"slices"
	"strconv"
	"strings"
	"sync"
	"testing"

	"loop.example/g00210/impl"
)

var (
	putForm    = regexp.MustCompile(`(?s)\Aput ([^ ]+) (.*)\z`)
	nameLines  = regexp.MustCompile(`(?s)\A(get|drop) ([^ ]+)\z`)
	countLines = regexp.MustCompile(`\A(wipe|repair|move) (0|[1-9][0-9]{0,8})\z`)
	rootForm   = regexp.MustCompile(`(?s)\Aroot (.*)\z`)
)

// longCount tells a count, or that there is none.
func longCount(count int) string {
	if count == -1 {
		return "none"
	}
	return fmt.Sprint(count)
}

func longNameLine(a impl.Archive, word string, name string) (impl.Archive, string) {
	if word == "drop" {
		after, code := longDrop(a, name)
		return after, fmt.Sprint(code)
	}
	text, code := longArcGet(a, name, nil)
	if code == 0 {
		return a, "ok " + text
	}
	return a, fmt.Sprintf("code %d", code)
}

func longCountLine(a impl.Archive, word string, digits string) (impl.Archive, string) {
	number, _ := strconv.Atoi(digits)
	switch word {
	case "wipe":
		after, code := longArcWipe(a, number)
		return after, fmt.Sprint(code)
	case "repair":
		after, helped := longArcRepair(a, number)
		return after, longCount(helped)
	}
	after, left := longArcMove(a, number, nil)
	return after, longCount(left)
}

// longSuspects are the nodes that answered badly at least once since they answered well.
func longSuspects(marks []impl.Mark) string {
	told := []string{}
	for _, m := range marks {
		if m.Row > 0 {
			told = append(told, fmt.Sprint(m.Node))
		}
	}
	return cmp.Or(strings.Join(told, " "), "-")
}

func longRootText(data string) string {
	if len(data) > 2000 {
		return ""
	}
	return fmt.Sprintf("%x", rootsOf(1, data)[0])
}

// longDeskLine is what DeskLine must answer at any arguments, by the forms of the lines, apart from the program.
func longDeskLine(a impl.Archive, line string) (impl.Archive, string) {
	if put := putForm.FindStringSubmatch(line); put != nil {
		after, code := longPut(a, put[1], put[2])
		return after, fmt.Sprint(code)
	}
	if named := nameLines.FindStringSubmatch(line); named != nil {
		return longNameLine(a, named[1], named[2])
	}
	if counted := countLines.FindStringSubmatch(line); counted != nil {
		return longCountLine(a, counted[1], counted[2])
	}
	if root := rootForm.FindStringSubmatch(line); root != nil {
		return a, longRootText(root[1])
	}
	switch line {
	case "list":
		return a, cmp.Or(strings.Join(strings.Split(longList(a), "\n"), ";"), "-")
	case "audit":
		after := longArcAudit(a, "x")
		return after, longSuspects(after.Marks)
	}
	return a, "what"
}

// checkLine wants DeskLine to tell this of a line, and the archive to be what was reckoned apart.
func checkLine(t *testing.T, a impl.Archive, line string, want string) impl.Archive {
	t.Helper()
	reckoned, told := longDeskLine(a, line)
	if told != want {
		t.Fatalf("%.80q: %.200q by the reckoning, want %.200q", line, told, want)
	}
	got, answer := impl.DeskLine(a, line)
	if answer != want || !sameArchive(got, reckoned) {
		t.Fatalf("DeskLine of %.80q = %.200q, %s, want %.200q, %s", line, answer, briefArchive(got), want, briefArchive(reckoned))
	}
	return got
}

// checkWhat wants lines to be none that are known, and the archive to stay as it is.
func checkWhat(t *testing.T, a impl.Archive, lines ...string) {
	t.Helper()
	for _, line := range lines {
		if got := checkLine(t, a, line, "what"); !sameArchive(got, a) {
			t.Fatalf("behind %.80q the archive is %s", line, briefArchive(got))
		}
		if len(line) < 10000 && !strings.Contains(line, "\n") {
			checkTold(t, line+"\n", "what\n")
		}
	}
}

func checkTold(t *testing.T, script string, want string) {
	t.Helper()
	if got := impl.Desk(script); got != want {
		t.Fatalf("Desk of %.300q = %.600q, want %.600q", script, got, want)
	}
}

// exchange is a line and what is told of it.
type exchange struct {
	line string
	told string
}

func deskArchive(t *testing.T) impl.Archive {
	t.Helper()
	return startedArchive(t, 1, []int{3})
}

// checkDesk wants these lines, one behind the other, to be answered so: by Desk, by Desk of each beginning, and line by line by DeskLine.
func checkDesk(t *testing.T, lines ...exchange) impl.Archive {
	t.Helper()
	a, script, want := deskArchive(t), "", ""
	for _, l := range lines {
		a = checkLine(t, a, l.line, l.told)
		script, want = script+l.line+"\n", want+l.told+"\n"
		checkTold(t, script, want)
	}
	checkTold(t, script, want)
	return a
}

// reckonedLines are these lines with what is told of each by the reckoning apart.
func reckonedLines(t *testing.T, lines ...string) []exchange {
	t.Helper()
	a, list := deskArchive(t), []exchange{}
	for _, line := range lines {
		after, told := longDeskLine(a, line)
		a, list = after, append(list, exchange{line, told})
	}
	return list
}

const rootOfAb = "309703fcab197a42aa9ee84a4ada3169" // a number of another program

func TestDeskNumbers(t *testing.T) {
	if impl.MaxScript != 10000 {
		t.Errorf("MaxScript is %d", impl.MaxScript)
	}
}

func TestDeskSession(t *testing.T) {
	one := longRootText("the first text")
	a := checkDesk(t, []exchange{
		{"list", "-"}, {"audit", "-"}, {"get a", "code 4"}, {"drop a", "4"},
		{"put b ab", "0"}, {"put a.1 the first text", "0"}, {"put c gone soon", "0"}, {"put b ab", "0"},
		{"get b", "ok ab"}, {"get a.1", "ok the first text"}, {"get c", "ok gone soon"}, {"get d", "code 4"},
		{"list", "a.1 14 " + one + ";b 2 " + rootOfAb + ";c 9 " + longRootText("gone soon") + ";"},
		{"drop c", "0"}, {"get c", "code 4"}, {"drop c", "4"},
		{"list", "a.1 14 " + one + ";b 2 " + rootOfAb + ";"},
		{"audit", "3"}, {"wipe 1", "0"}, {"audit", "1 3"}, {"get a.1", "ok the first text"},
		{"repair 1", "2"}, {"audit", "3"}, {"repair 1", "0"}, {"get b", "ok ab"},
		{"wipe 0", "0"}, {"wipe 2", "0"}, {"get b", "code 5"}, {"audit", "3"}, {"repair 0", "0"},
		{"put b ab", "0"}, {"get b", "ok ab"}, {"get a.1", "code 5"},
		{"move 2", "1"}, {"get b", "ok ab"}, {"get a.1", "code 4"}, {"audit", "-"}, {"wipe 6", "0"}, {"audit", "6"},
		{"list", "b 2 " + fmt.Sprintf("%x", rootsOf(2, "ab")[0]) + ";"},
		{"root ab", rootOfAb}, {"root the first text", one},
		{"move 1", "0"}, {"list", "b 2 " + rootOfAb + ";"}, {"wipe 4", "7"}, {"repair 3", "0"},
	}...)
	checkArchive(t, a, true, "a session was held on it")
}

// Each kind of line makes of an archive what its function makes.
func TestDeskMakesWhatTheFunctionsMake(t *testing.T) {
	a := filed(t, 1, []int{3}, label{"a", "first"}, label{"b", "two  words"})
	a.Net.Nodes[2].Slots, a.Marks = nil, someMarks()
	made := func(line string, want impl.Archive, number int) {
		t.Helper()
		got, told := impl.DeskLine(a, line)
		if told != strconv.Itoa(number) || !sameArchive(got, want) {
			t.Fatalf("DeskLine of %q = %q, %s, want %d, %s", line, told, briefArchive(got), number, briefArchive(want))
		}
	}
	want, code := impl.ArcPut(a, "c", "third ")
	made("put c third ", want, code)
	want, code = impl.ArcDrop(a, "b")
	made("drop b", want, code)
	want, code = impl.ArcWipe(a, 3)
	made("wipe 3", want, code)
	want, code = impl.ArcRepair(a, 2)
	made("repair 2", want, code)
	want, code = impl.ArcMove(a, 2, nil)
	made("move 2", want, code)
	got, told := impl.DeskLine(a, "audit")
	if told != "2 3" || !sameArchive(got, impl.ArcAudit(a, "x")) {
		t.Fatalf("DeskLine of audit = %q, %s", told, briefArchive(got))
	}
	for _, line := range []string{"get a", "get b", "get c", "list", "root ab", "what", ""} {
		if got, _ := impl.DeskLine(a, line); !sameArchive(got, a) {
			t.Fatalf("behind %q the archive is %s, want %s", line, briefArchive(got), briefArchive(a))
		}
	}
}

func TestDeskOfTheEmptyScript(t *testing.T) {
	checkTold(t, "", "")
}

func TestDeskByLines(t *testing.T) {
	checkTold(t, "list\n", "-\n")
	checkTold(t, "\n", "what\n")
	for _, count := range []int{1, 2, 99, 100} {
		checkTold(t, strings.Repeat("list\n", count), strings.Repeat("-\n", count))
		checkTold(t, strings.Repeat("\n", count), strings.Repeat("what\n", count))
		checkTold(t, strings.Repeat("list\n", count-1)+"\n", strings.Repeat("-\n", count-1)+"what\n")
	}
	for _, count := range []int{101, 102, 200, 256, 2000} {
		checkTold(t, strings.Repeat("list\n", count), "long\n")
		checkTold(t, strings.Repeat("\n", count), "long\n")
	}
	lines := []string{} // the last one of a hundred counts
	for i := range 99 {
		lines = append(lines, fmt.Sprintf("put n%d text %d", i%7, i%20))
	}
	told := impl.Desk(strings.Join(lines, "\n") + "\nget n0\n")
	if want := strings.Repeat("0\n", 99) + "ok text 18\n"; told != want {
		t.Fatalf("Desk = %q, want %q", told, want)
	}
}

// sizedScript has just so many bytes, in lines that are put and got again.
func sizedScript(size int) string {
	script, line := "", "put long "+strings.Repeat("x", 1900)+"\n"
	for len(script)+2*len(line) < size {
		script += line
	}
	return script + "root " + strings.Repeat("y", size-len(script)-len("root \n")) + "\n"
}

func TestDeskByBytes(t *testing.T) {
	for _, size := range []int{6, 7, 2000, 9998, 9999, 10000} {
		script := sizedScript(size)
		if len(script) != size {
			t.Fatalf("the script has %d bytes, want %d", len(script), size)
		}
		last := strings.Split(script, "\n")[strings.Count(script, "\n")-1]
		checkTold(t, script, strings.Repeat("0\n", strings.Count(script, "\n")-1)+longRootText(last[len("root "):])+"\n")
	}
	for _, size := range []int{10001, 10002, 20000, 65536, 100000} {
		checkTold(t, sizedScript(size), "long\n")
	}
	checkTold(t, strings.Repeat("x", 9999)+"\n", "what\n")
	checkTold(t, strings.Repeat("x", 10000)+"\n", "long\n")
	checkTold(t, strings.Repeat("x", 10000), "long\n")
	checkTold(t, strings.Repeat("\n", 10001), "long\n")
	checkTold(t, "root "+strings.Repeat("y", 9994)+"\n", "\n") // a line of all bytes, with a text that is too long
	checkTold(t, "put a "+strings.Repeat("y", 9993)+"\n", "3\n")
}

func TestDeskOfATextWithoutItsLastNewline(t *testing.T) {
	for _, text := range []string{"l", "list", " ", "\nlist", "list\nlist", "list\n ", "put a x\nget a", "list\n\r", "\x00", "long", "list\n-"} {
		checkTold(t, text, "long\n")
	}
	checkTold(t, "long\n", "what\n")
	checkTold(t, strings.Repeat("list\n", 100)+"x", "long\n")
}

func TestDeskBlanks(t *testing.T) {
	a := filed(t, 1, []int{3}, label{"a", "kept"}, label{"b", ""})
	checkWhat(t, a, "", " ", "  ", "\t", strings.Repeat(" ", 99))
	known := []string{"get a", "drop a", "wipe 1", "repair 1", "move 2", "list", "audit"}
	for _, line := range known {
		checkWhat(t, a, " "+line, "  "+line, line+" ", line+"  ", " "+line+" ", "\t"+line)
	}
	for _, line := range known[:5] {
		word, rest, _ := strings.Cut(line, " ")
		checkWhat(t, a, word+"  "+rest, word+"   "+rest, word+"\t"+rest, word+" ", word+"  ", word, word+rest, word+"\u00a0"+rest)
	}
	for _, line := range []string{"put a x", "put a ", "root ab", "root "} {
		checkWhat(t, a, " "+line, "  "+line, "\t"+line)
	}
	checkWhat(t, a, "put", "put ", "put  ", "put   ", "put  x", "put  a x", "put  a", "put a", "put new", "puta x", "put\ta x", "put\ta\tx", "put a\tx")
	checkWhat(t, a, "root", "rootab", "root\tab")
}

// All behind the blank that ends the name is the text, blanks too, and it is got as it was put.
func TestDeskTexts(t *testing.T) {
	texts := []string{"", " ", "  ", "x", " x", "x ", " x ", "  two  words  ", "a b c d", "put b y", "\t", "\r", "a\x00b", "\xff\xfe", "ok", "code 4", "what", "-", ";", "0", "ä ö", strings.Repeat(" ", 2000), strings.Repeat("z", 2000)}
	a := deskArchive(t)
	for i, text := range texts {
		size := strconv.Itoa(len(text))
		checkDesk(t, exchange{"put a " + text, "0"}, exchange{"get a", "ok " + text}, exchange{"list", "a " + size + " " + longRootText(text) + ";"}, exchange{"root " + text, longRootText(text)})
		name := fmt.Sprintf("n%02d", i)
		a = checkLine(t, a, "put "+name+" "+text, "0")
		checkLine(t, a, "get "+name, "ok "+text)
	}
	for _, text := range []string{strings.Repeat(" ", 2001), strings.Repeat("z", 2001), strings.Repeat("a ", 2000)} {
		checkDesk(t, exchange{"put a kept", "0"}, exchange{"put a " + text, "3"}, exchange{"put b " + text, "3"}, exchange{"get a", "ok kept"}, exchange{"get b", "code 4"})
	}
	checkDesk(t, exchange{"put a kept", "0"}, exchange{"put a", "what"}, exchange{"get a", "ok kept"}, exchange{"put a ", "0"}, exchange{"get a", "ok "})
}

func TestDeskRoots(t *testing.T) {
	a := filed(t, 1, []int{3}, label{"a", "kept"})
	checkLine(t, a, "root ab", rootOfAb)
	for _, text := range []string{"", " ", "  ", " ab", "ab ", "a b", "  a  b  ", "\t", "\x00\xff", "ä", "root ab", strings.Repeat("x", 1999), strings.Repeat(" ", 2000)} {
		for _, on := range []impl.Archive{a, deskArchive(t), startedArchive(t, 2, nil), {}} {
			if got := checkLine(t, on, "root "+text, longRootText(text)); !sameArchive(got, on) {
				t.Fatalf("behind root the archive is %s", briefArchive(got))
			}
		}
		if want := impl.HexText(impl.RootOf(text, 2, 4)); longRootText(text) != want || len(want) != 32 {
			t.Fatalf("the root of %q is %q", text, want)
		}
	}
	for _, size := range []int{2001, 2002, 9994, 70000} {
		checkLine(t, a, "root "+strings.Repeat("x", size), "")
	}
	checkWhat(t, a, "root", "Root ab", "roots ab")
}

// noCounts are texts that are no number of a line.
func noCounts() []string {
	return []string{"", "00", "01", "03", "001", "0000000001", "+1", "-1", "-0", "+0", "+", "-", "1.", "1.0", ".", "1e0", "0x1", "0b1", "0o1", "1_0", "_1", "a", "1a", "a1", "x", "1,", "１", "²", "1\x00", "\x001", "1\t", "\t1", "1\r", "\xff", "1 1", "1 ", " 1", "1000000000", "1234567890", "9999999999", "00000000000", "18446744073709551617", "-9223372036854775808", strings.Repeat("1", 50), strings.Repeat("0", 9), "Ⅷ", "1\n", "\n1"}
}

func TestDeskNumbersThatAreNone(t *testing.T) {
	a := filed(t, 1, []int{3}, label{"a", "kept"})
	a.Net.Nodes[1].Slots = nil
	for _, word := range []string{"wipe", "repair", "move"} {
		for _, digits := range noCounts() {
			checkWhat(t, a, word+" "+digits)
		}
		for x := range 256 { // each byte alone, ahead of a digit and behind one
			letter := string([]byte{byte(x)})
			if letter < "0" || letter > "9" {
				checkWhat(t, a, word+" "+letter, word+" 1"+letter, word+" "+letter+"1")
			}
		}
	}
}

func TestDeskNumbersByDigits(t *testing.T) {
	a := filed(t, 1, []int{3}, label{"a", "kept"})
	for _, digits := range []string{"10", "99", "100", "1234567", "99999999", "100000000", "123456789", "999999999"} {
		checkLine(t, a, "wipe "+digits, "7")
		checkLine(t, a, "repair "+digits, "none")
		checkLine(t, a, "move "+digits, "none")
	}
	for number := range 10 {
		digits := strconv.Itoa(number)
		wiped, helped, left := "7", "none", "none"
		if number <= 3 {
			wiped = "0"
		}
		if number <= 2 {
			helped = "0"
		}
		if number >= 1 && number <= 3 {
			left = "0"
		}
		checkLine(t, a, "wipe "+digits, wiped)
		checkLine(t, a, "repair "+digits, helped)
		checkLine(t, a, "move "+digits, left)
	}
	other := filed(t, 3, []int{1}, label{"a", "kept"})
	checkLine(t, other, "wipe 9", "0")
	checkLine(t, other, "wipe 10", "7")
	checkLine(t, checkLine(t, other, "wipe 9", "0"), "repair 9", "1")
	checkLine(t, other, "repair 10", "none")
	checkLine(t, other, "repair 1", "none")
}

func TestDeskNodes(t *testing.T) {
	put := []exchange{{"put a first", "0"}, {"put b ", "0"}}
	for id := range 3 {
		n := strconv.Itoa(id)
		checkDesk(t, append(put, exchange{"repair " + n, "0"}, exchange{"wipe " + n, "0"}, exchange{"audit", n + " 3"}, exchange{"get a", "ok first"}, exchange{"get b", "ok "}, exchange{"repair " + n, "2"}, exchange{"audit", "3"})...)
	}
	checkDesk(t, append(put, exchange{"wipe 3", "0"}, exchange{"audit", "3"}, exchange{"repair 3", "none"}, exchange{"get a", "ok first"})...)
	checkDesk(t, append(put, exchange{"wipe 4", "7"}, exchange{"repair 4", "none"}, exchange{"audit", "3"})...)
	checkDesk(t, exchange{"wipe 0", "0"}, exchange{"repair 0", "0"}, exchange{"audit", "-"})
	checkDesk(t, append(put, exchange{"wipe 0", "0"}, exchange{"wipe 1", "0"}, exchange{"wipe 2", "0"}, exchange{"get a", "code 5"}, exchange{"repair 0", "0"}, exchange{"audit", "-"})...)
}

func TestDeskMoves(t *testing.T) {
	put := []exchange{{"put a first", "0"}, {"put b a b", "0"}}
	for _, no := range []string{"0", "4", "5", "100", "999999999"} {
		checkDesk(t, append(put, exchange{"move " + no, "none"}, exchange{"repair 3", "none"}, exchange{"get a", "ok first"}, exchange{"audit", "3"})...)
	}
	for f := 1; f <= 3; f++ {
		last, none := strconv.Itoa(3*f), strconv.Itoa(3*f+1)
		moved := append(slices.Clone(put), exchange{"audit", "3"}, exchange{"move " + strconv.Itoa(f), "0"}, exchange{"audit", "-"}, exchange{"get a", "ok first"}, exchange{"get b", "ok a b"})
		moved = append(moved, exchange{"wipe " + last, "0"}, exchange{"audit", last}, exchange{"repair " + last, "2"}, exchange{"audit", "-"}, exchange{"wipe " + none, "7"}, exchange{"repair " + none, "none"})
		a := checkDesk(t, append(moved, exchange{"root first", longRootText("first")})...)
		if a.Net.F != f || len(a.Net.Liars) != 0 {
			t.Fatalf("the archive is %s", briefArchive(a))
		}
	}
	checkDesk(t, append(put, exchange{"wipe 0", "0"}, exchange{"wipe 1", "0"}, exchange{"put b a b", "0"}, exchange{"move 1", "1"}, exchange{"get a", "code 4"}, exchange{"get b", "ok a b"}, exchange{"move 3", "0"})...)
	checkDesk(t, exchange{"move 2", "0"}, exchange{"list", "-"}, exchange{"move 1", "0"}, exchange{"wipe 4", "7"})
}

// As many names as there may be: all of them go to seven nodes; at ten something is on its way, and what is told then is what the archive's functions tell of that.
func TestDeskMovesOfThirtyTexts(t *testing.T) {
	script, told := "", ""
	for i := range 30 {
		script, told = script+fmt.Sprintf("put n%02d text %d\n", i, i), told+"0\n"
	}
	checkTold(t, script+"put m more\nput n29 other\nmove 2\nget n07\nget n29\nput m more\n", told+"2\n0\n0\nok text 7\nok other\n2\n")
	checkTold(t, script+"move 3\nget n07\nput n07 x\ndrop n07\nwipe 0\nrepair 0\nmove 1\naudit\nroot ab\n", told+"0\ncode 4\n6\n4\n7\nnone\nnone\n-\n"+rootOfAb+"\n")
	checkTold(t, script+"drop n11\nmove 3\nget n07\nput n11 x\nget n11\n", told+"0\n0\nok text 7\n0\nok x\n")
}

// Forty texts are as many as the nodes have slots for.
func TestDeskUpToMaxSlots(t *testing.T) {
	script, told := "", ""
	for i := range 40 {
		script, told = script+fmt.Sprintf("put a text %d\n", i), told+"0\n"
	}
	checkTold(t, script+"put a one more\nput a text 5\nget a\nmove 1\nput a one more\nget a\n", told+"2\n0\nok text 5\n0\n0\nok one more\n")
}

func TestDeskLists(t *testing.T) {
	a, list := deskArchive(t), ""
	checkLine(t, a, "list", "-")
	for i, name := range []string{".", "0", "a", "a.b", "z"} {
		text := strings.Repeat("x", 11*i)
		a = checkLine(t, a, "put "+name+" "+text, "0")
		list += name + " " + strconv.Itoa(11*i) + " " + longRootText(text) + ";"
		checkLine(t, a, "list", list)
	}
	checkDesk(t, exchange{"put a ab", "0"}, exchange{"list", "a 2 " + rootOfAb + ";"}, exchange{"drop a", "0"}, exchange{"list", "-"})
}

// ArcList takes any archive: whatever newlines stand there are told by semicolons.
func TestDeskListsAnyEntries(t *testing.T) {
	for _, c := range []struct {
		entries []impl.Entry
		want    string
	}{
		{[]impl.Entry{{}}, " 0 ;"},
		{[]impl.Entry{{Name: "a", Root: "\x00\xff", Size: -10}}, "a -10 00ff;"},
		{[]impl.Entry{{Name: "\n"}, {Name: "x\n\ny;\n", Root: "\n", Size: 7}}, "; 0 ;x;;y;; 7 0a;"},
	} {
		checkLine(t, impl.Archive{Entries: c.entries}, "list", c.want)
	}
}

func TestDeskAudits(t *testing.T) {
	checkDesk(t, exchange{"audit", "-"}, exchange{"wipe 0", "0"}, exchange{"audit", "-"}) // nobody is asked for anything
	checkDesk(t, exchange{"put a x", "0"}, exchange{"audit", "3"}, exchange{"audit", "3"}, exchange{"drop a", "0"}, exchange{"audit", "3"}, exchange{"move 1", "0"}, exchange{"audit", "-"})
	checkDesk(t, exchange{"put a x", "0"}, exchange{"move 3", "0"}, exchange{"audit", "-"}, exchange{"wipe 9", "0"}, exchange{"wipe 0", "0"}, exchange{"wipe 5", "0"}, exchange{"audit", "0 5 9"})
	checkDesk(t, exchange{"put a x", "0"}, exchange{"wipe 2", "0"}, exchange{"audit", "2 3"}, exchange{"put b y", "0"}, exchange{"audit", "3"}, exchange{"put 0 y", "0"}, exchange{"audit", "3"}, exchange{"put c x", "0"}, exchange{"audit", "3"})
	checkDesk(t, exchange{"put z x", "0"}, exchange{"wipe 2", "0"}, exchange{"put a y", "0"}, exchange{"audit", "2 3"}, exchange{"repair 2", "1"}, exchange{"audit", "3"})
}

// Marks are told whatever they are, in their order, from one in a row on.
func TestDeskAuditTellsMarks(t *testing.T) {
	a := deskArchive(t)
	a.Marks = []impl.Mark{{Node: 7, Row: 1}, {Node: -4, Bad: 3, Row: 2}, {Node: 7, Row: 9}, {Node: 5, Bad: 4, Good: 1}, {Node: 1, Row: -1}, {Node: 12, Row: 1}}
	for _, net := range []impl.Net{a.Net, {}} {
		on := impl.Archive{Net: net, Marks: a.Marks}
		if got := checkLine(t, on, "audit", "7 -4 7 12"); !slices.Equal(got.Marks, a.Marks) {
			t.Fatalf("the marks are %v", got.Marks)
		}
	}
	kept := filed(t, 1, nil, label{"a", "kept"})
	kept.Marks = []impl.Mark{{Node: 0, Row: 5}, {Node: 2, Bad: 1, Row: 1}, {Node: 8, Row: 1}}
	got := checkLine(t, kept, "audit", "8")
	if want := impl.AuditAll(kept.Net, []string{"kept"}, "x", kept.Marks); !slices.Equal(got.Marks, want) {
		t.Fatalf("the marks are %v, want %v", got.Marks, want)
	}
}

// A name that is none is one word all the same, unless it is empty or has a blank in it.
func TestDeskNamesThatAreNone(t *testing.T) {
	a := filed(t, 1, []int{3}, label{"a", "kept"})
	for _, name := range noNames() {
		if name == "" || strings.Contains(name, " ") {
			continue
		}
		for _, text := range []string{"x", "", "two words", strings.Repeat("x", 2001)} {
			checkLine(t, a, "put "+name+" "+text, "1")
		}
		checkLine(t, a, "get "+name, "code 4")
		checkLine(t, a, "drop "+name, "4")
		checkWhat(t, a, "put "+name)
	}
	for x := range 256 {
		letter := string([]byte{byte(x)})
		if letter == " " {
			continue
		}
		code := "1"
		if nameForm.MatchString(letter) {
			code = "0"
		}
		checkLine(t, a, "put "+letter+" x", code)
		checkLine(t, a, "put b"+letter+" x", code)
	}
	checkDesk(t, exchange{"put A x", "1"}, exchange{"get A", "code 4"}, exchange{"drop A", "4"}, exchange{"put a-b x", "1"}, exchange{"put " + strings.Repeat("n", 20) + " x", "0"}, exchange{"put " + strings.Repeat("n", 21) + " x", "1"}, exchange{"list", strings.Repeat("n", 20) + " 1 " + longRootText("x") + ";"})
}

func TestDeskLinesThatAreNone(t *testing.T) {
	a := filed(t, 1, []int{3}, label{"a", "kept"}, label{"1", "one"})
	words := []string{"put", "get", "drop", "wipe", "repair", "move", "list", "audit", "root"}
	for _, word := range words {
		upper, title := strings.ToUpper(word), strings.ToUpper(word[:1])+word[1:]
		for _, rest := range []string{"", " ", " a", " 1", " a x", " 1 1"} {
			checkWhat(t, a, upper+rest, title+rest, word+"s"+rest, word[1:]+rest, word[:len(word)-1]+rest, "x"+word+rest, word+"\x00"+rest, word+"."+rest, word+":"+rest)
		}
	}
	for _, word := range []string{"get", "drop", "wipe", "repair", "move"} {
		checkWhat(t, a, word, word+" ", word+" 1 1", word+" 1 a", word+" a a", word+" 1 ", word+" a a a")
	}
	for _, word := range []string{"list", "audit"} {
		checkWhat(t, a, word+" ", word+" a", word+" 1", word+" x", word+" "+word, word+word)
	}
	checkWhat(t, a, "put a", "put 1", "put", "root")
	checkWhat(t, a, "dance 1", "what", "ok", "code 4", "none", "-", "long", "help", "echo x", "a", "0", "put\x00a x", "listaudit", "wipe a", "repair one", "move f", "get a\x20", "lists", "NAME", "get NAME x")
	checkLine(t, a, "get 1", "ok one") // a number may be a name
	checkLine(t, a, "get put", "code 4")
	checkLine(t, checkLine(t, a, "put list audit", "0"), "get list", "ok audit")
}

// Bytes that are no letters, alone and in each place of a line.
func TestDeskBytes(t *testing.T) {
	a := filed(t, 1, []int{3}, label{"a", "kept"})
	for x := range 256 {
		letter := string([]byte{byte(x)})
		checkWhat(t, a, letter, letter+letter, letter+"list", "list"+letter, "li"+letter+"st", "audit"+letter, letter+"get a", letter+"root ab")
		text := letter + "x" + letter
		checkLine(t, checkLine(t, a, "put a "+text, "0"), "get a", "ok "+text)
		checkLine(t, a, "root "+text, longRootText(text))
	}
	checkWhat(t, a, allBytes(), "\xef\xbb\xbflist", "list\u2028", "get\u3000a", "ｌｉｓｔ", "\x80\x81\x82")
	checkLine(t, a, "get \xff\xfe", "code 4")
	checkDesk(t, reckonedLines(t, "put a \x00\x01\xff", "get a", "get \x00", "\xff", "\x00list", "put \xc3 x", "drop \xc3\xa4", "root \x80", "list\r", "get a\r", "put a x\r", "get a")...)
}

// A newline is a byte like any other to DeskLine: of a name, of a text, or of a line that is not known.
func TestDeskLineWithANewline(t *testing.T) {
	a := filed(t, 1, []int{3}, label{"a", "kept"})
	checkWhat(t, a, "\n", "list\n", "\nlist", "audit\n", "li\nst", "wipe 1\n", "wipe\n1", "repair 0\n", "move 1\n", "move 1\nlist", "put\na x", "put a\nx", "root\nab", "list\nlist", "get a\nget a", "\nget a", "get\na")
	checkLine(t, a, "get a\n", "code 4")
	checkLine(t, a, "get \n", "code 4")
	checkLine(t, a, "drop a\n", "4")
	checkLine(t, a, "put a\n x", "1")
	checkLine(t, a, "root ab\n", longRootText("ab\n"))
	for _, text := range []string{"\n", "x\n", "\nx", "x\ny", "x\n\ny\n", "x\nget a"} {
		got := checkLine(t, a, "put a "+text, "0")
		checkLine(t, got, "get a", "ok "+text)
	}
	checkDesk(t, exchange{"put a x", "0"}, exchange{"", "what"}, exchange{"get a", "ok x"})
}

// Whatever codes there are to get are told.
func TestDeskGetCodes(t *testing.T) {
	for f := 1; f <= 3; f++ {
		a := filed(t, f, []int{0}, label{"m", "kept here"})
		a.Net = given(given(a.Net, boundBadly(f)), toldNothing(f))
		a = withEntries(a, impl.Entry{Name: "n", Root: boundBadly(f)[0].Root}, impl.Entry{Name: "o", Root: toldNothing(f)[0].Root}, impl.Entry{Name: "p"}, impl.Entry{Name: "q", Root: rootsOf(f, "never brought")[0]})
		for name, want := range map[string]string{"m": "ok kept here", "n": "code 6", "o": "code 6", "p": "code 5", "q": "code 5", "l": "code 4", "M": "code 4"} {
			if got := checkLine(t, a, "get "+name, want); !sameArchive(got, a) {
				t.Fatalf("behind get the archive is %s", briefArchive(got))
			}
		}
		checkLine(t, a, "move "+strconv.Itoa(f), "4")
	}
}

// Each kind of line on an archive that is not right: what its function tells of that.
func TestDeskOnAnArchiveThatIsNotRight(t *testing.T) {
	for _, c := range []struct {
		f     int
		liars []int
	}{{1, []int{3}}, {2, []int{0, 5}}} {
		a := filed(t, c.f, c.liars, label{"a", "first"}, label{"b", "second"})
		a.Marks = someMarks()
		for _, w := range wrongArchives(a) {
			checkArchive(t, w.archive, false, w.why)
			listed := cmp.Or(strings.ReplaceAll(longList(w.archive), "\n", ";"), "-")
			for _, l := range []exchange{
				{"put a x", "6"}, {"put new x", "6"}, {"put A x", "6"}, {"put a " + strings.Repeat("x", 2001), "6"}, {"put a ", "6"},
				{"get a", "code 4"}, {"get A", "code 4"}, {"get n00", "code 4"}, {"drop a", "4"}, {"drop b", "4"}, {"drop zz", "4"},
				{"wipe 0", "7"}, {"wipe 1", "7"}, {"wipe 99", "7"}, {"repair 1", "none"}, {"repair 99", "none"},
				{"move 1", "none"}, {"move 2", "none"}, {"move 0", "none"},
				{"list", listed}, {"audit", longSuspects(w.archive.Marks)}, {"root ab", rootOfAb}, {"root ", longRootText("")},
				{"", "what"}, {"dance", "what"}, {"put a", "what"}, {"get", "what"}, {"wipe 01", "what"}, {"list ", "what"}, {"root", "what"},
			} {
				if got := checkLine(t, w.archive, l.line, l.told); !sameArchive(got, w.archive) {
					t.Fatalf("%s: behind %q the archive is %s", w.why, l.line, briefArchive(got))
				}
			}
		}
	}
}

// drawnLine draws one that is known more often than not.
func (d *drawer) drawnLine() string {
	pick := func(list ...string) string { return list[d.below(len(list))] }
	name := pick("a", "b", "c", "d.1", "e", "A", "", "a b", strings.Repeat("n", 20+d.below(2)))
	number := pick("0", "1", "2", "3", "4", "6", "01", "", "x", "999999999", "1000000000", "-1")
	text := pick("", " ", "x", "two words", " ahead", "behind ", strings.Repeat("y", d.below(50)), d.drawnText())
	line := pick("put "+name+" "+text, "put "+name+" "+text, "put "+name+" "+text, "get "+name, "get "+name, "drop "+name, "wipe "+number, "repair "+number, "move "+number, "list", "audit", "root "+text, text)
	switch d.below(20) {
	case 0:
		return line + " "
	case 1:
		return " " + line
	case 2:
		return strings.Replace(line, " ", "  ", 1)
	case 3:
		return line[:d.below(len(line)+1)]
	case 4:
		return strings.ToUpper(line)
	}
	return line
}

// drawnText has any bytes but a newline.
func (d *drawer) drawnText() string {
	return strings.ReplaceAll(d.text(d.below(30)), "\n", "n")
}

func (d *drawer) drawnScript(count int) []string {
	lines := []string{}
	for range count {
		lines = append(lines, d.drawnLine())
	}
	return lines
}

// What is told of a script begins with what is told of its beginning, line by line, and is what its lines are told one by one.
func TestDeskBeginnings(t *testing.T) {
	d := drawer(191)
	told := map[string]int{}
	for range 300 {
		lines := reckonedLines(t, d.drawnScript(1+d.below(25))...)
		checkDesk(t, lines...)
		for _, l := range lines {
			word, _, _ := strings.Cut(l.line, " ")
			first, _, _ := strings.Cut(l.told, " ")
			if first == "0" || first == "what" || first == "none" || first == "ok" || first == "code" {
				told[word+" "+first]++
			}
		}
	}
	for _, what := range []string{"put 0", "put what", "get ok", "get code", "get what", "drop 0", "drop what", "wipe 0", "wipe what", "repair 0", "repair none", "repair what", "move 0", "move none", "move what"} {
		if told[what] < 8 {
			t.Errorf("only %d times %s: the test has grown weak", told[what], what)
		}
	}
}

// Of two scripts that begin alike, as much is told alike, whatever comes behind.
func TestDeskBeginningsOfLongScripts(t *testing.T) {
	d := drawer(192)
	for range 4 {
		lines := d.drawnScript(100)
		script := strings.Join(lines, "\n") + "\n"
		if len(script) > 10000 {
			t.Fatalf("the script has %d bytes", len(script))
		}
		whole := impl.Desk(script)
		if strings.Count(whole, "\n") != 100 {
			t.Fatalf("%d lines are told", strings.Count(whole, "\n"))
		}
		for count := 0; count <= 100; count += 1 + d.below(9) {
			begin := impl.Desk(strings.Join(lines[:count], "\n") + strings.Repeat("\n", min(count, 1)))
			if !strings.HasPrefix(whole, begin) || strings.Count(begin, "\n") != count {
				t.Fatalf("what is told of the first %d lines of %q is %q, of all %q", count, script, begin, whole)
			}
		}
		checkTold(t, script, whole)
		checkTold(t, script+"\n", "long\n")
	}
}

func TestDeskLineOnAnyArchive(t *testing.T) {
	d := drawer(193)
	right := map[bool]int{}
	for round := range 60 {
		f := 1 + round%3
		texts := d.drawnCuttings(f, 3)
		a := d.drawnArchive(f, texts)
		right[longArchiveOk(a)]++
		for range 8 {
			line := d.drawnLine()
			_, told := longDeskLine(a, line)
			a = checkLine(t, a, line, told)
		}
	}
	if right[true] < 15 || right[false] < 8 {
		t.Errorf("%v archives are right: the test has grown weak", right)
	}
}

// deskLines are lines of each kind, done and refused.
func deskLines() []string {
	lines := []string{"put b new text", "put c new", "put A x", "put b " + strings.Repeat("x", 2001), "put b", "get a", "get b", "get zz", "get", "drop a", "drop zz", "wipe 0", "wipe 99", "wipe 01", "repair 2", "repair 1", "repair 99", "move 1", "move 2", "move 0", "list", "audit", "root ab", "root two words", "what", "", "list "}
	for i, line := range lines {
		lines[i] = strings.Clone(line)
	}
	return lines
}

func TestDeskWritesIntoNoArgument(t *testing.T) {
	d := drawer(194)
	for round := range 30 {
		f := 1 + round%3
		drawn := d.drawnArchive(f, d.drawnCuttings(f, 3))
		if round%3 == 0 {
			drawn = filed(t, f, []int{0}, label{"b", "second"}, label{"a", "first"})
			drawn.Net.Nodes[2].Slots, drawn.Marks = nil, someMarks()
		}
		a, look := roomyArchive(drawn)
		kept := look()
		for _, line := range deskLines() {
			got, _ := impl.DeskLine(a, line)
			if !sameArchive(look(), kept) {
				t.Fatalf("%q: the archive or the room behind it was written into: %s", line, briefArchive(a))
			}
			writeOverArchive(got)
			if !sameArchive(look(), kept) {
				t.Fatalf("%q: the answer shares memory with the archive: %s", line, briefArchive(a))
			}
		}
	}
}

func TestDeskAnswersAreNewMemory(t *testing.T) {
	d := drawer(195)
	for round := range 8 {
		f := 1 + round%2
		a := d.drawnArchive(f, d.drawnCuttings(f, 2))
		if round%4 != 0 {
			a = filed(t, f, []int{1}, label{"b", "second"}, label{"a", "first"}, label{"c", "second"})
			a.Net.Nodes[2].Slots, a.Marks = nil, someMarks()
		}
		for i := range a.Entries {
			a.Entries[i].Name = strings.Clone(a.Entries[i].Name)
		}
		for _, line := range deskLines() {
			got, told := impl.DeskLine(a, line)
			checkOwnArchive(t, got, a, line)
			checkOwnTexts(t, []string{told}, append(append(textsOfArchive(a), textsOfArchive(got)...), line))
		}
	}
	script := strings.Clone("put a some text\nget a\nlist\nroot some text\n")
	checkOwnTexts(t, []string{impl.Desk(script)}, []string{script})
	lone := strings.Clone("what\n")
	checkOwnTexts(t, []string{impl.Desk(lone), impl.Desk(lone[:4])}, []string{lone})
}

// Lists and texts that an archive shares with itself are apart in what is answered.
func TestDeskListsThatAreShared(t *testing.T) {
	n, brought := sharingNet()
	n.Way = nil
	root, name := brought[0].Root, strings.Clone("shared")
	a := impl.Archive{Net: n, Entries: []impl.Entry{{Name: name[:3], Root: root, Size: 6}, {Name: name, Root: root}}}
	for _, isWrong := range []bool{false, true} {
		if isWrong {
			a.Net.Nodes[3].Id = 2
		}
		checkArchive(t, a, !isWrong, "it shares lists")
		for _, line := range append(deskLines(), "get shared", "drop shared") {
			got, _ := impl.DeskLine(a, line)
			checkOwnArchive(t, got, a, line)
		}
	}
}

// Calls at the same time do not see each other.
func TestDeskCallsAtOnce(t *testing.T) {
	a := filed(t, 1, []int{3}, label{"a", "first"})
	scripts := []string{"put a x\nget a\naudit\n", "get a\nput a y\nwipe 0\nget a\n", "list\nmove 1\nwipe 3\nlist\n"}
	wants := []string{"0\nok x\n3\n", "code 4\n0\n0\nok y\n", "-\n0\n0\n-\n"}
	var all sync.WaitGroup
	wrongs := make([]string, 24)
	for i := range wrongs {
		all.Add(1)
		go func() {
			defer all.Done()
			told := impl.Desk(scripts[i%3])
			_, line := impl.DeskLine(a, "get a")
			if told != wants[i%3] || line != "ok first" {
				wrongs[i] = told + line
			}
		}()
	}
	all.Wait()
	for _, what := range wrongs {
		if what != "" {
			t.Fatal(what)
		}
	}
}

func TestDeskKeepsNothing(t *testing.T) {
	a := filed(t, 1, []int{3}, label{"a", "first"})
	for range 3 {
		checkTold(t, "get a\nput a x\nget a\nmove 2\nwipe 6\naudit\n", "code 4\n0\nok x\n0\n0\n6\n")
		checkTold(t, "wipe 6\naudit\nlist\nrepair 3\n", "7\n-\n-\nnone\n")
		checkLine(t, a, "drop a", "0")
		checkLine(t, a, "get a", "ok first")
		checkLine(t, a, "put a other", "0")
		checkLine(t, a, "get a", "ok first")
	}
}
