package tests

import (
	"encoding/hex"
	"math"
	"slices"
	"strconv"
	"strings"
	"testing"

	"loop.example/g00210/impl"
)

// longSumText is the sum of a text, reckoned apart from the program.
func longSumText(s string) string {
	sum := []byte{}
	for _, sip := range []uint64{longSip(1, 2, s), longSip(3, 4, s)} {
		for shift := 56; shift >= 0; shift -= 8 {
			sum = append(sum, byte(sip>>shift))
		}
	}
	return string(sum)
}

func longJoin(a string, b string) string {
	return longSumText(string([]byte{1}) + a + b)
}

// leftHalf is how many of n leaves lie below the left one of the two that the root joins: rows of two each make it a power of two.
func leftHalf(n int) int {
	left := 1
	for 2*left < n {
		left *= 2
	}
	return left
}

// longRoot goes from the root down, by halves, and knows of no rows.
func longRoot(leaves []string, join func(string, string) string) string {
	if len(leaves) == 1 {
		return leaves[0]
	}
	left := leftHalf(len(leaves))
	return join(longRoot(leaves[:left], join), longRoot(leaves[left:], join))
}

func longProof(leaves []string, i int) []string {
	if len(leaves) == 1 {
		return nil
	}
	left := leftHalf(len(leaves))
	if i < left {
		return append(longProof(leaves[:left], i), longRoot(leaves[left:], impl.Join))
	}
	return append(longProof(leaves[left:], i-left), longRoot(leaves[:left], impl.Join))
}

func longProofRoot(leaf string, i int, n int, proof []string) string {
	if n == 1 {
		return leaf
	}
	left, last := leftHalf(n), len(proof)-1
	if i < left {
		return impl.Join(longProofRoot(leaf, i, left, proof[:last]), proof[last])
	}
	return impl.Join(proof[last], longProofRoot(leaf, i-left, n-left, proof[:last]))
}

func longProofLen(i int, n int) int {
	if n == 1 {
		return 0
	}
	left := leftHalf(n)
	if i < left {
		return 1 + longProofLen(i, left)
	}
	return 1 + longProofLen(i-left, n-left)
}

func unhex(t *testing.T, digits string) string {
	t.Helper()
	bytes, err := hex.DecodeString(digits)
	if err != nil {
		t.Fatal(err)
	}
	return string(bytes)
}

func (d *drawer) sums(count int) []string {
	list := []string{}
	for range count {
		list = append(list, d.text(impl.SumLen))
	}
	return list
}

// numberedLeaves are the leaves of the texts "0", "1" and so on.
func numberedLeaves(n int) []string {
	leaves := []string{}
	for i := range n {
		leaves = append(leaves, impl.Leaf(strconv.Itoa(i)))
	}
	return leaves
}

// noSums are texts that are no sums for their length.
func noSums() []string {
	list := []string{""}
	for _, size := range []int{1, 8, 15, 17, 31, 32, 16 + 256, 16 + 65536} {
		list = append(list, strings.Repeat("s", size))
	}
	return list
}

// noSpots are places and numbers of leaves that are not so.
func noSpots() [][2]int {
	list := [][2]int{{0, 65}, {64, 65}, {0, 66}, {0, 128}, {0, 256 + 4}, {0, 1<<32 + 4}, {3, math.MaxInt}, {math.MaxInt, math.MaxInt}, {math.MaxInt - 1, math.MaxInt}, {math.MinInt, math.MinInt}, {math.MinInt, 0}, {-1, math.MaxInt}}
	for n := 1; n <= impl.MaxLeaves; n++ {
		for _, i := range []int{-1, -2, -n, n, n + 1, 64, 65, 256, -256, 1 << 32, -(1 << 32), math.MaxInt, math.MinInt, math.MinInt + 1} {
			list = append(list, [2]int{i, n})
		}
	}
	for _, n := range []int{0, -1, -64, -(1 << 32) + 4, math.MinInt, math.MinInt + 1} {
		for _, i := range []int{0, 1, -1, -2, n, n - 1, n + 1} {
			list = append(list, [2]int{i, n})
		}
	}
	return list
}

func checkNoRoot(t *testing.T, leaves []string) {
	t.Helper()
	if root, ok := impl.Root(leaves); root != "" || ok {
		t.Errorf("Root of %d texts, %.80q = %q, %v, want none", len(leaves), leaves, root, ok)
	}
	for _, i := range []int{0, 1, len(leaves) - 1, -1, len(leaves)} {
		checkNoProof(t, leaves, i)
	}
}

func checkNoProof(t *testing.T, leaves []string, i int) {
	t.Helper()
	if proof, ok := impl.Proof(leaves, i); len(proof) != 0 || ok {
		t.Errorf("Proof of place %d of %d texts = %q, %v, want none", i, len(leaves), proof, ok)
	}
}

// checkNoProofRoot asks for the empty root too, which is what a false is told beside.
func checkNoProofRoot(t *testing.T, leaf string, i int, n int, proof []string) {
	t.Helper()
	if root, ok := impl.ProofRoot(leaf, i, n, proof); root != "" || ok {
		t.Errorf("ProofRoot of %.40q at %d of %d with %d texts = %q, %v, want none", leaf, i, n, len(proof), root, ok)
	}
	for _, root := range []string{"", leaf, impl.Leaf("")} {
		if impl.Proved(root, leaf, i, n, proof) {
			t.Errorf("Proved(%.40q) of %.40q at %d of %d with %d texts", root, leaf, i, n, len(proof))
		}
	}
}

// checkProofs wants each leaf's proof to lead to the root, and to be the one that is reckoned by halves.
func checkProofs(t *testing.T, leaves []string) {
	t.Helper()
	n := len(leaves)
	root, ok := impl.Root(leaves)
	if want := longRoot(leaves, impl.Join); root != want || !ok {
		t.Fatalf("Root of %d = %q, %v, want %q", n, root, ok, want)
	}
	for i, leaf := range leaves {
		proof, ok := impl.Proof(leaves, i)
		if want := longProof(leaves, i); !slices.Equal(proof, want) || !ok {
			t.Fatalf("Proof of %d of %d = %q, %v, want %q", i, n, proof, ok, want)
		}
		if len(proof) != impl.ProofLen(i, n) {
			t.Fatalf("the proof of %d of %d has %d texts, ProofLen tells %d", i, n, len(proof), impl.ProofLen(i, n))
		}
		if led, ok := impl.ProofRoot(leaf, i, n, proof); led != root || !ok {
			t.Fatalf("ProofRoot of %d of %d = %q, %v, want %q", i, n, led, ok, root)
		}
		if !impl.Proved(root, leaf, i, n, proof) {
			t.Fatalf("leaf %d of %d is not proved", i, n)
		}
	}
}

func TestTreeMaxLeaves(t *testing.T) {
	if impl.MaxLeaves != 64 {
		t.Errorf("MaxLeaves is %d", impl.MaxLeaves)
	}
}

// The sums that are written out in this file were reckoned by OpenSSL's SipHash.
func TestTreeLeavesAndJoinsWrittenOut(t *testing.T) {
	for s, want := range map[string]string{
		"":                       "3f7f7f034cc671d66fec00dacb8c6756",
		"a":                      "3426ca53389c84e1160709d8e25489e5",
		"abc":                    "9e4beaa224a70fb0e996fe5fc8ef13d1",
		string(make([]byte, 16)): "87b14c08b98c28de3d73761240cc563f",
		allBytes():               "7b475bdcf7db1c38ac5c2717e08c2fef",
	} {
		if got := impl.Leaf(s); got != unhex(t, want) {
			t.Errorf("Leaf(%.20q) = %x, want %s", s, got, want)
		}
	}
	a, b := unhex(t, "3426ca53389c84e1160709d8e25489e5"), unhex(t, "d1839aca8fefedacbd38c0972d81f3a2")
	for _, c := range [][3]string{
		{"", "", "3c9460bc5e3f4702fd19b9d8656e5e17"},
		{"a", "", "b6cbaa8d13c48ec12246913761169216"},
		{"", "a", "b6cbaa8d13c48ec12246913761169216"},
		{"a", "b", "378a8217e5d737835dda8f2a3cc2d22a"},
		{a, b, "3cb37721fc88a8bb4b58bf5da0839bca"},
		{b, a, "d8d217bb61c3c178267e6a80f62c292b"},
	} {
		if got := impl.Join(c[0], c[1]); got != unhex(t, c[2]) {
			t.Errorf("Join(%q, %q) = %x, want %s", c[0], c[1], got, c[2])
		}
	}
}

func TestTreeLeavesAndJoinsByMeaning(t *testing.T) {
	d := drawer(81)
	for size := range 80 {
		a, b := d.text(size), d.text(d.below(40))
		if got := impl.Leaf(a); got != longSumText("\x00"+a) || got != impl.Sum("\x00"+a) {
			t.Fatalf("Leaf(%q) = %x", a, got)
		}
		for _, pair := range [][2]string{{a, b}, {b, a}, {a, ""}, {"", a}, {a, a}} {
			got := impl.Join(pair[0], pair[1])
			if got != longJoin(pair[0], pair[1]) || got != impl.Sum("\x01"+pair[0]+pair[1]) {
				t.Fatalf("Join(%q, %q) = %x", pair[0], pair[1], got)
			}
		}
	}
	for _, size := range []int{2000, 4097, 70000} {
		text := d.text(size)
		if impl.Leaf(text) != impl.Sum("\x00"+text) || impl.Join(text, text) != impl.Sum("\x01"+text+text) {
			t.Errorf("a leaf or a join of %d bytes", size)
		}
	}
}

// A join's text as a leaf's would have its sum, if nothing stood ahead of both.
func TestTreeLeavesAreNoJoins(t *testing.T) {
	d := drawer(82)
	for range 100 {
		a, b := d.text(impl.SumLen), d.text(impl.SumLen)
		if impl.Leaf(a+b) == impl.Join(a, b) || impl.Leaf(a) == impl.Join(a, "") || impl.Leaf(a+b) == impl.Sum(a+b) || impl.Join(a, b) == impl.Join(b, a) {
			t.Fatalf("%q, %q: a leaf that is a join too, or joins that are alike", a, b)
		}
	}
}

func TestTreeRootsWrittenOut(t *testing.T) {
	for n, want := range map[int]string{
		1:  "871956214dc25488b6e73ba64a92d7be",
		2:  "cb943e880cbc7527506eb5e47d2b49c8",
		3:  "47f8ec60e3fef34952a319776b868fae",
		4:  "dc1f66c06f437840f7c4fc9488ac3281",
		5:  "9db83c9aefb448501b21200308f55ed1",
		6:  "bb9f3d6d4b6383269d1cc66a5711688c",
		7:  "f7fcf209d431f672e29eb453d85c589d",
		8:  "0c14d72dba90d662b44b3056c4176fc7",
		9:  "585dcf5451ba8183e10928ed23469790",
		16: "5630ed2d247014838574dcbeebc69ba4",
		17: "488ccba07a0a84eb32d7d2478fffe448",
		33: "c1ff9dfbc54cf92c96b1afae69235dd8",
		63: "4975c7c8ad0f74ad93820d5e77f235ed",
		64: "1a1b39f3bbdaf5084105a63b3f232758",
	} {
		if got, ok := impl.Root(numberedLeaves(n)); got != unhex(t, want) || !ok {
			t.Errorf("Root of %d = %x, %v, want %s", n, got, ok, want)
		}
	}
}

func TestTreeRootsByMeaning(t *testing.T) {
	d := drawer(83)
	for n := 1; n <= impl.MaxLeaves; n++ {
		leaves := d.sums(n)
		if got, ok := impl.Root(leaves); got != longRoot(leaves, longJoin) || !ok {
			t.Errorf("Root of %d = %x, %v", n, got, ok)
		}
	}
}

// Each row is written out where one is left over: in the first row, in a later one, and in several.
func TestTreeRootsWithOneLeftOver(t *testing.T) {
	l := numberedLeaves(9)
	j := impl.Join
	for n, want := range map[int]string{
		2: j(l[0], l[1]),
		3: j(j(l[0], l[1]), l[2]),
		5: j(j(j(l[0], l[1]), j(l[2], l[3])), l[4]),
		6: j(j(j(l[0], l[1]), j(l[2], l[3])), j(l[4], l[5])),
		7: j(j(j(l[0], l[1]), j(l[2], l[3])), j(j(l[4], l[5]), l[6])),
		9: j(j(j(j(l[0], l[1]), j(l[2], l[3])), j(j(l[4], l[5]), j(l[6], l[7]))), l[8]),
	} {
		if got, ok := impl.Root(l[:n]); got != want || !ok {
			t.Errorf("Root of %d = %x, %v, want %x", n, got, ok, want)
		}
	}
}

func TestTreeEachProofLeadsToTheRoot(t *testing.T) {
	d := drawer(84)
	for n := 1; n <= impl.MaxLeaves; n++ {
		checkProofs(t, numberedLeaves(n))
		checkProofs(t, d.sums(n))
	}
}

func TestTreeLeavesThatAreAlike(t *testing.T) {
	d := drawer(85)
	for n := 1; n <= impl.MaxLeaves; n++ {
		leaves := slices.Repeat([]string{impl.Leaf("")}, n)
		checkProofs(t, leaves)
		leaves[d.below(n)] = impl.Leaf("another")
		checkProofs(t, leaves)
		leaves[n-1] = strings.Repeat("\x00", impl.SumLen)
		checkProofs(t, leaves)
	}
	for n, want := range map[int]string{
		1:  "3f7f7f034cc671d66fec00dacb8c6756",
		2:  "e87efe4fe1b2a32d026eb9a7c2d931e7",
		3:  "cf4fb136ff8e32cb7afb042493275608",
		4:  "b310191b343f7a3f73b30b21b387138b",
		5:  "07cd0fd05fde81f5190f5417a53eed4d",
		64: "4764b64c0decfab3719a2cd00106d157",
	} {
		if got, ok := impl.Root(slices.Repeat([]string{impl.Leaf("")}, n)); got != unhex(t, want) || !ok {
			t.Errorf("Root of %d that are alike = %x, %v, want %s", n, got, ok, want)
		}
	}
}

func TestTreeOneLeaf(t *testing.T) {
	for _, leaf := range []string{impl.Leaf("a"), strings.Repeat("\x00", impl.SumLen), strings.Repeat("\xff", impl.SumLen)} {
		if root, ok := impl.Root([]string{leaf}); root != leaf || !ok {
			t.Errorf("Root of %q alone = %q, %v", leaf, root, ok)
		}
		if proof, ok := impl.Proof([]string{leaf}, 0); len(proof) != 0 || !ok {
			t.Errorf("Proof of %q alone = %q, %v", leaf, proof, ok)
		}
		for _, none := range [][]string{nil, {}} {
			if root, ok := impl.ProofRoot(leaf, 0, 1, none); root != leaf || !ok || !impl.Proved(leaf, leaf, 0, 1, none) {
				t.Errorf("ProofRoot of %q alone = %q, %v", leaf, root, ok)
			}
		}
		if impl.Proved(impl.Leaf("b"), leaf, 0, 1, nil) || impl.Proved("", leaf, 0, 1, nil) {
			t.Errorf("%q alone is proved of another root", leaf)
		}
		for _, proof := range [][]string{{leaf}, {""}, {leaf, leaf}} {
			checkNoProofRoot(t, leaf, 0, 1, proof)
		}
	}
}

func TestTreeProofsOfTheLastLeaf(t *testing.T) {
	for n, want := range map[int]int{1: 0, 2: 1, 3: 1, 4: 2, 5: 1, 6: 2, 7: 2, 8: 3, 9: 1, 17: 1, 33: 1, 34: 2, 48: 5, 49: 2, 62: 5, 63: 5, 64: 6} {
		leaves := numberedLeaves(n)
		proof, ok := impl.Proof(leaves, n-1)
		if len(proof) != want || !ok || impl.ProofLen(n-1, n) != want {
			t.Errorf("the last of %d has a proof of %d texts, %v, and ProofLen %d, want %d", n, len(proof), ok, impl.ProofLen(n-1, n), want)
		}
		root, _ := impl.Root(leaves)
		if !impl.Proved(root, leaves[n-1], n-1, n, proof) {
			t.Errorf("the last of %d is not proved", n)
		}
	}
	for n := 2; n <= 33; n *= 2 {
		leaves := numberedLeaves(n + 1)
		left, _ := impl.Root(leaves[:n])
		if proof, ok := impl.Proof(leaves, n); !slices.Equal(proof, []string{left}) || !ok {
			t.Errorf("the last of %d, left over up to the root: proof %q, %v", n+1, proof, ok)
		}
	}
}

func TestTreeProofLen(t *testing.T) {
	for n := 1; n <= impl.MaxLeaves; n++ {
		for i := range n {
			if got, want := impl.ProofLen(i, n), longProofLen(i, n); got != want {
				t.Errorf("ProofLen(%d, %d) = %d, want %d", i, n, got, want)
			}
		}
	}
	for _, spot := range noSpots() {
		if got := impl.ProofLen(spot[0], spot[1]); got != -1 {
			t.Errorf("ProofLen(%d, %d) = %d, want -1", spot[0], spot[1], got)
		}
	}
}

func TestTreeRefusesOtherNumbersOfLeaves(t *testing.T) {
	checkNoRoot(t, nil)
	checkNoRoot(t, []string{})
	for _, n := range []int{65, 66, 127, 128, 129, 256, 257, 300} {
		checkNoRoot(t, numberedLeaves(n))
	}
}

func TestTreeRefusesATextThatIsNoLeaf(t *testing.T) {
	for _, n := range []int{1, 2, 3, 5, 63, 64} {
		leaves := numberedLeaves(n)
		for place := range n {
			for _, text := range noSums()[:6] {
				checkNoRoot(t, withTextAt(leaves, place, text))
			}
		}
		for _, text := range noSums() {
			checkNoRoot(t, withTextAt(leaves, n-1, text))
			checkNoRoot(t, slices.Repeat([]string{text}, n))
		}
	}
	checkNoRoot(t, []string{strings.Repeat("s", 15), strings.Repeat("s", 17)})
}

func TestTreeProofOfNoLeaf(t *testing.T) {
	for n := 1; n <= impl.MaxLeaves; n++ {
		leaves := numberedLeaves(n)
		for _, i := range []int{-1, -2, -n, n, n + 1, 64, 65, 256, -256, 1 << 32, -(1 << 32), math.MaxInt, math.MinInt, math.MinInt + 1} {
			checkNoProof(t, leaves, i)
		}
	}
}

// Sums that no tree has lead to a root all the same.
func TestTreeProofRootOfAnySums(t *testing.T) {
	d := drawer(86)
	for n := 1; n <= impl.MaxLeaves; n++ {
		for i := range n {
			leaf, proof := d.text(impl.SumLen), d.sums(longProofLen(i, n))
			want := longProofRoot(leaf, i, n, proof)
			if got, ok := impl.ProofRoot(leaf, i, n, proof); got != want || !ok {
				t.Fatalf("ProofRoot at %d of %d = %x, %v, want %x", i, n, got, ok, want)
			}
			if !impl.Proved(want, leaf, i, n, proof) || impl.Proved(leaf, leaf, i, n, proof) != (n == 1) {
				t.Fatalf("Proved at %d of %d", i, n)
			}
		}
	}
}

func TestTreeProofRootRefusesPlaces(t *testing.T) {
	leaf, sums := impl.Leaf("a"), numberedLeaves(8)
	for _, spot := range noSpots() {
		for count := range 8 {
			checkNoProofRoot(t, leaf, spot[0], spot[1], sums[:count])
		}
	}
}

func TestTreeProofRootRefusesTexts(t *testing.T) {
	d := drawer(87)
	for n := 1; n <= impl.MaxLeaves; n++ {
		leaves := d.sums(n)
		for i, leaf := range leaves {
			proof := longProof(leaves, i)
			for _, text := range noSums()[:6] {
				checkNoProofRoot(t, text, i, n, proof)
				for place := range proof {
					checkNoProofRoot(t, leaf, i, n, withTextAt(proof, place, text))
				}
			}
		}
	}
	leaves := numberedLeaves(6)
	for _, text := range noSums() {
		checkNoProofRoot(t, text, 5, 6, longProof(leaves, 5))
		checkNoProofRoot(t, leaves[5], 5, 6, withTextAt(longProof(leaves, 5), 1, text))
	}
}

func TestTreeProofRootRefusesTooFewAndTooMany(t *testing.T) {
	d := drawer(88)
	for n := 1; n <= impl.MaxLeaves; n++ {
		leaves := d.sums(n)
		for i, leaf := range leaves {
			proof := longProof(leaves, i)
			for count := range len(proof) {
				checkNoProofRoot(t, leaf, i, n, proof[:count])
				checkNoProofRoot(t, leaf, i, n, proof[len(proof)-count:])
			}
			for _, more := range []string{leaf, "", impl.Leaf("more")} {
				checkNoProofRoot(t, leaf, i, n, slices.Concat(proof, []string{more}))
				checkNoProofRoot(t, leaf, i, n, slices.Concat([]string{more}, proof))
			}
			checkNoProofRoot(t, leaf, i, n, slices.Concat(proof, d.sums(7)))
		}
	}
}

func TestTreeNotProvedWithAnotherRootOrLeafOrPlace(t *testing.T) {
	d := drawer(89)
	for n := 1; n <= impl.MaxLeaves; n++ {
		leaves := d.sums(n)
		root, _ := impl.Root(leaves)
		for i, leaf := range leaves {
			proof := longProof(leaves, i)
			place, by := d.below(impl.SumLen), 1+d.below(255)
			for _, other := range []string{"", changed(root, place, by), root[:15], root + "\x00", impl.Leaf(""), impl.Join(root, root)} {
				if impl.Proved(other, leaf, i, n, proof) || impl.Proved(root, other, i, n, proof) {
					t.Fatalf("%d of %d is proved with another root or as another leaf, %q", i, n, other)
				}
			}
			for j, other := range leaves {
				if j != i && (impl.Proved(root, other, i, n, proof) || impl.Proved(root, leaf, j, n, proof)) {
					t.Fatalf("%d of %d is proved as leaf %d or at its place", i, n, j)
				}
			}
			if impl.Proved(root, leaf, -1, n, proof) || impl.Proved(root, leaf, n, n, proof) || impl.Proved(root, leaf, i, 0, proof) || impl.Proved(root, leaf, i, 65, proof) {
				t.Fatalf("%d of %d is proved at no place", i, n)
			}
		}
	}
}

func TestTreeNotProvedWithAByteChanged(t *testing.T) {
	d := drawer(90)
	for _, n := range []int{1, 2, 3, 5, 6, 7, 9, 17, 33, 63, 64} {
		leaves := d.sums(n)
		root, _ := impl.Root(leaves)
		for i, leaf := range leaves {
			proof := longProof(leaves, i)
			for place := range impl.SumLen {
				by := 1 + d.below(255)
				if impl.Proved(changed(root, place, by), leaf, i, n, proof) || impl.Proved(root, changed(leaf, place, by), i, n, proof) {
					t.Fatalf("%d of %d is proved with byte %d of the root or the leaf changed", i, n, place)
				}
				for at, text := range proof {
					if impl.Proved(root, leaf, i, n, withTextAt(proof, at, changed(text, place, by))) {
						t.Fatalf("%d of %d is proved with byte %d of text %d changed", i, n, place, at)
					}
				}
			}
		}
	}
}

func TestTreeNotProvedWithTextsInAnotherOrder(t *testing.T) {
	leaves := numberedLeaves(impl.MaxLeaves)
	root, _ := impl.Root(leaves)
	for i, leaf := range leaves {
		proof := longProof(leaves, i)
		slices.Reverse(proof)
		if impl.Proved(root, leaf, i, impl.MaxLeaves, proof) {
			t.Errorf("%d is proved with its texts from above", i)
		}
	}
}

func TestTreeRootHangsOnEachLeafAndTheirOrder(t *testing.T) {
	d := drawer(91)
	for n := 1; n <= impl.MaxLeaves; n++ {
		leaves := d.sums(n)
		root, _ := impl.Root(leaves)
		for i, leaf := range leaves {
			if other, ok := impl.Root(withTextAt(leaves, i, changed(leaf, d.below(impl.SumLen), 1+d.below(255)))); other == root || !ok {
				t.Fatalf("Root of %d is the same with leaf %d changed", n, i)
			}
			turned := withTextAt(withTextAt(leaves, i, leaves[0]), 0, leaf)
			if other, ok := impl.Root(turned); (other == root) != (i == 0) || !ok {
				t.Fatalf("Root of %d with leaves 0 and %d in each other's place", n, i)
			}
		}
	}
}

// A place may have one way up among several numbers of leaves: what is told then is the same root.
func TestTreeProofOfAnotherNumberOfLeaves(t *testing.T) {
	leaves := numberedLeaves(impl.MaxLeaves)
	for n := 1; n <= impl.MaxLeaves; n++ {
		root, _ := impl.Root(leaves[:n])
		for i, leaf := range leaves[:n] {
			proof := longProof(leaves[:n], i)
			for other := i + 1; other <= impl.MaxLeaves; other++ {
				want := longProofLen(i, other) == len(proof) && longProofRoot(leaf, i, other, proof) == root
				if impl.Proved(root, leaf, i, other, proof) != want {
					t.Fatalf("Proved at %d of %d with a proof of %d, want %v", i, other, n, want)
				}
			}
		}
	}
}

func TestTreeWritesIntoNoList(t *testing.T) {
	d := drawer(92)
	for n := range impl.MaxLeaves + 2 {
		list := d.sums(n)
		if n > 0 && d.below(4) == 0 {
			list[d.below(n)] = d.text(d.below(20))
		}
		leaves, memory := roomyTexts(list)
		kept := slices.Clone(memory)
		root, _ := impl.Root(leaves)
		for i := -1; i <= n; i++ {
			answer, _ := impl.Proof(leaves, i)
			proof, memoryProof := roomyTexts(answer)
			keptProof := slices.Clone(memoryProof)
			for j := range answer[:cap(answer)] {
				answer[:cap(answer)][j] = "written over"
			}
			impl.ProofRoot(d.text(impl.SumLen), i, n, proof)
			impl.Proved(root, d.text(impl.SumLen), i, n, proof)
			if !slices.Equal(memoryProof, keptProof) {
				t.Fatalf("%d of %d: the proof or the room behind it was written into", i, n)
			}
		}
		if !slices.Equal(memory, kept) {
			t.Fatalf("%d: the leaves or the room behind them were written into", n)
		}
	}
}

func TestTreeAnswersAreNewMemory(t *testing.T) {
	d := drawer(93)
	for n := 1; n <= impl.MaxLeaves; n++ {
		leaves := d.sums(n)
		if n%3 == 0 {
			leaves = slices.Repeat(leaves[:1], n)
		}
		root, _ := impl.Root(leaves)
		checkOwnTexts(t, []string{root}, leaves)
		for i, leaf := range leaves {
			proof, _ := impl.Proof(leaves, i)
			again, _ := impl.Proof(leaves, i)
			checkOwnTexts(t, slices.Concat(proof, again), leaves)
			led, _ := impl.ProofRoot(leaf, i, n, proof)
			checkOwnTexts(t, []string{led}, append(proof, leaf, root))
		}
	}
	text := d.text(40)
	checkOwnTexts(t, []string{impl.Leaf(text), impl.Leaf(""), impl.Join(text, ""), impl.Join("", text), impl.Join(text, text)}, []string{text})
}

func TestTreeKeepsNothing(t *testing.T) {
	leaves := numberedLeaves(impl.MaxLeaves)
	for _, n := range []int{64, 3, 1, 63, 2, 64} {
		checkProofs(t, leaves[:n])
		checkNoRoot(t, numberedLeaves(65))
		checkNoProof(t, leaves[:n], n)
		checkProofs(t, leaves[:n])
	}
}
