package tests

import (
	"encoding/binary"
	"encoding/hex"
	"fmt"
	"math"
	"math/big"
	"strings"
	"testing"

	"loop.example/g00210/impl"
)

// long draws a long; some are all noughts or all ones but for a few bits, so that sums go over.
func (d *drawer) long() uint64 {
	x := uint64(d.below(1<<22))<<42 ^ uint64(d.below(1<<21))<<21 ^ uint64(d.below(1<<21))
	switch d.below(6) {
	case 0:
		return x >> d.below(64)
	case 1:
		return ^(x >> d.below(64))
	}
	return x
}

func (d *drawer) state() [4]uint64 {
	return [4]uint64{d.long(), d.long(), d.long(), d.long()}
}

// longSum is a sum of longs as the rest of a whole number by 2 to the power of 64.
func longSum(a uint64, b uint64) uint64 {
	whole := new(big.Int).Add(new(big.Int).SetUint64(a), new(big.Int).SetUint64(b))
	return whole.And(whole, new(big.Int).SetUint64(math.MaxUint64)).Uint64()
}

// longRoll turns the 64 digits of a long, n of them from the front to the back; n below 0: from the back to the front.
func longRoll(x uint64, n int) uint64 {
	digits := fmt.Sprintf("%064b", x)
	cut := n % 64
	if cut < 0 {
		cut += 64
	}
	turned, _ := new(big.Int).SetString(digits[cut:]+digits[:cut], 2)
	return turned.Uint64()
}

func longMix(v [4]uint64) [4]uint64 {
	v0, v1, v2, v3 := v[0], v[1], v[2], v[3]
	v0 = longSum(v0, v1)
	v1 = longRoll(v1, 13)
	v1 = v1 ^ v0
	v0 = longRoll(v0, 32)
	v2 = longSum(v2, v3)
	v3 = longRoll(v3, 16)
	v3 = v3 ^ v2
	v0 = longSum(v0, v3)
	v3 = longRoll(v3, 21)
	v3 = v3 ^ v0
	v2 = longSum(v2, v1)
	v1 = longRoll(v1, 17)
	v1 = v1 ^ v2
	v2 = longRoll(v2, 32)
	return [4]uint64{v0, v1, v2, v3}
}

// unmixed takes a round back: its steps from the last to the first, each by what undoes it.
func unmixed(v [4]uint64) [4]uint64 {
	v0, v1, v2, v3 := v[0], v[1], v[2], v[3]
	v2 = longRoll(v2, -32)
	v1 = longRoll(v1^v2, -17)
	v2 = v2 - v1
	v3 = longRoll(v3^v0, -21)
	v0 = v0 - v3
	v3 = longRoll(v3^v2, -16)
	v2 = v2 - v3
	v0 = longRoll(v0, -32)
	v1 = longRoll(v1^v0, -13)
	v0 = v0 - v1
	return [4]uint64{v0, v1, v2, v3}
}

// longSip makes all longs of a text first, the last one by noughts behind the text up to its highest byte.
func longSip(a uint64, b uint64, s string) uint64 {
	padded := []byte(s)
	for len(padded)%8 != 7 {
		padded = append(padded, 0)
	}
	padded = append(padded, byte(len(s)%256))
	start := []byte("somepseudorandomlygeneratedbytes")
	var v [4]uint64
	for i, key := range []uint64{a, b, a, b} {
		v[i] = key ^ binary.BigEndian.Uint64(start[8*i:])
	}
	for ; len(padded) > 0; padded = padded[8:] {
		long := binary.LittleEndian.Uint64(padded)
		v[3] ^= long
		v = longMix(longMix(v))
		v[0] ^= long
	}
	v[2] ^= 0xff
	v = longMix(longMix(longMix(longMix(v))))
	return v[0] ^ v[1] ^ v[2] ^ v[3]
}

// downText is the text that the sums below were reckoned of: its bytes begin with 255 and go down by 73.
func downText(count int) string {
	bytes := make([]byte, count)
	for i := range bytes {
		bytes[i] = byte(255 - 73*i)
	}
	return string(bytes)
}

func TestSumLen(t *testing.T) {
	if impl.SumLen != 16 {
		t.Errorf("SumLen is %d", impl.SumLen)
	}
}

func TestSumRollByMeaning(t *testing.T) {
	d := drawer(71)
	for n := -200; n <= 200; n++ {
		for _, x := range []uint64{0, 1, 1 << 63, math.MaxUint64, math.MaxUint64 - 1, 1<<32 - 1, d.long(), d.long(), d.long()} {
			got := impl.Roll(x, n)
			if want := longRoll(x, n); got != want {
				t.Fatalf("Roll(%#x, %d) = %#x, want %#x", x, n, got, want)
			}
			if back := impl.Roll(got, -n); back != x {
				t.Fatalf("Roll(%#x, %d) and back = %#x", x, n, back)
			}
		}
	}
}

func TestSumRollEdges(t *testing.T) {
	const x = 0x8123456789abcde7
	for _, c := range []struct {
		n    int
		want uint64
	}{
		{0, x},
		{1, 0x02468acf13579bcf},
		{4, 0x123456789abcde78},
		{63, 0xc091a2b3c4d5e6f3},
		{64, x},
		{65, 0x02468acf13579bcf},
		{-1, 0xc091a2b3c4d5e6f3},
		{-4, 0x78123456789abcde},
		{-63, 0x02468acf13579bcf},
		{-64, x},
		{-65, 0xc091a2b3c4d5e6f3},
		{-128, x},
		{1 << 32, x},
		{1<<32 + 1, 0x02468acf13579bcf},
		{-(1 << 32) - 1, 0xc091a2b3c4d5e6f3},
		{math.MaxInt, 0xc091a2b3c4d5e6f3},
		{math.MaxInt - 62, 0x02468acf13579bcf},
		{math.MinInt, x},
		{math.MinInt + 1, 0x02468acf13579bcf},
		{math.MinInt + 63, 0xc091a2b3c4d5e6f3},
	} {
		if got := impl.Roll(x, c.n); got != c.want {
			t.Errorf("Roll(%#x, %d) = %#x, want %#x", uint64(x), c.n, got, c.want)
		}
	}
}

func TestSumMixByMeaning(t *testing.T) {
	d := drawer(72)
	for range 2000 {
		v := d.state()
		if got, want := impl.Mix(v), longMix(v); got != want {
			t.Fatalf("Mix(%#x) = %#x, want %#x", v, got, want)
		}
	}
}

func TestSumMixEdges(t *testing.T) {
	const most = math.MaxUint64
	for _, c := range []struct{ v, want [4]uint64 }{
		{[4]uint64{}, [4]uint64{}},
		{[4]uint64{1, 2, 3, 4}, [4]uint64{12885164039, 2147893258, 70411693850624, 562655657991}},
		{[4]uint64{most, 1, 0, 0}, [4]uint64{0, 1<<30 ^ 1<<13, 1 << 45, 0}},
		{[4]uint64{0, 0, most, 1}, [4]uint64{1 << 16, 0, 0, 1<<37 ^ 1<<16}},
		{[4]uint64{most, most, most, most}, [4]uint64{0xffffffff00000000, 0xfffffffffffdffff, most, 0xffffffff00200000}},
	} {
		if got := impl.Mix(c.v); got != c.want {
			t.Errorf("Mix(%#x) = %#x, want %#x", c.v, got, c.want)
		}
	}
}

func TestSumMixIsTakenBack(t *testing.T) {
	d := drawer(73)
	states := [][4]uint64{{}, {math.MaxUint64, math.MaxUint64, math.MaxUint64, math.MaxUint64}}
	for place := range 4 {
		for bit := range 64 {
			var v [4]uint64
			v[place] = 1 << bit
			states = append(states, v)
			v[place] = math.MaxUint64 << bit
			states = append(states, v)
		}
	}
	for range 1000 {
		states = append(states, d.state())
	}
	for _, v := range states {
		if back := unmixed(impl.Mix(v)); back != v {
			t.Fatalf("Mix(%#x) taken back is %#x", v, back)
		}
		if again := impl.Mix(unmixed(v)); again != v {
			t.Fatalf("Mix of what leads to %#x is %#x", v, again)
		}
	}
}

func TestSumMixOfUnlikeStatesIsUnlike(t *testing.T) {
	d := drawer(74)
	for range 20 {
		v := d.state()
		from := map[[4]uint64][4]uint64{impl.Mix(v): v}
		for place := range 4 {
			for bit := range 64 {
				other := v
				other[place] ^= 1 << bit
				mixed := impl.Mix(other)
				if same, met := from[mixed]; met {
					t.Fatalf("Mix of %#x and of %#x is the same", other, same)
				}
				from[mixed] = other
			}
		}
	}
}

// sipOf is what another program (openssl mac .. SIPHASH) says of the text of that many bytes.
type sipOf struct {
	count int
	sum   uint64
}

func checkSips(t *testing.T, a uint64, b uint64, list []sipOf) {
	t.Helper()
	for _, c := range list {
		if got := impl.Sip(a, b, downText(c.count)); got != c.sum {
			t.Errorf("Sip(%#x, %#x, %d bytes) = %#016x, want %#016x", a, b, c.count, got, c.sum)
		}
	}
}

func TestSumSipWrittenOut(t *testing.T) {
	checkSips(t, 0x0706050403020100, 0x0f0e0d0c0b0a0908, []sipOf{
		{0, 0x726fdb47dd0e0e31}, {1, 0xcad12f7b27ddb802}, {2, 0xe0d6cf16f4a218d6}, {3, 0xd39cfea09eca769c},
		{4, 0xaecb8c5275fca9b8}, {5, 0x6a482d10f6007961}, {6, 0xb67d161c1d71f9c7}, {7, 0x3952719f9212c363},
		{8, 0x8d3d21e768d5fde9}, {9, 0x36383edebcc7c55b}, {15, 0x14d86ba21e454ac8}, {16, 0xbedb871229250ad6},
		{17, 0x5318c5e8850c8b55}, {255, 0xf6f6c12bd0ef2c99}, {256, 0x86b164ee913590e6}, {257, 0x1881f2ae9a2aa00d},
		{511, 0x88f8503ca35ff378}, {512, 0xf21767c298c278b3}, {2000, 0x5020937124954f97},
	})
	checkSips(t, 0, 0, []sipOf{
		{0, 0x1e924b9d737700d7}, {1, 0x20dd4eb33d9590f2}, {7, 0xdb7f726814d23542}, {8, 0x43eedbfcb1ceae80},
		{9, 0x58016cf8536ad5ad}, {15, 0xb8f421bdab58f3aa}, {16, 0x415f48f57a3aeac6}, {255, 0x4b32407b398edd06},
		{256, 0xd402842b7966ea8c}, {257, 0xe4d440c6fa9f5f91},
	})
	checkSips(t, math.MaxUint64, math.MaxUint64, []sipOf{
		{0, 0x35dd279ee86ce565}, {1, 0xeb45304aebf4e114}, {7, 0x688271d95df59234}, {8, 0xd0a35d4f9d130c7b},
		{9, 0xb5cf09df6c770534}, {15, 0x8b6e06cb2fef924d}, {16, 0xc5f105fe6d2bc540}, {255, 0x5d0c552e8e2a3842},
		{256, 0x3240bf18724c0677}, {257, 0x926839fc61e403c1},
	})
	checkSips(t, 1<<63, 0, []sipOf{{0, 0x620f794693c9a5b9}, {7, 0x66987ad0e3bb6c16}, {8, 0x8cc02dadb1ab0914}, {255, 0x86f4532227ca4650}})
	checkSips(t, 0, 1<<63, []sipOf{{0, 0x87f7600ac7c98ce8}, {7, 0xbc8fccfbf5c0e029}, {8, 0x77813dbcea6561fd}, {255, 0xa48f3144acda1622}})
}

func TestSumSipByMeaning(t *testing.T) {
	d := drawer(75)
	for count := range 600 {
		for _, s := range []string{d.text(count), strings.Repeat("\x00", count), strings.Repeat("\xff", count), strings.Repeat("\x80", count)} {
			a, b := d.long(), d.long()
			if got, want := impl.Sip(a, b, s), longSip(a, b, s); got != want {
				t.Fatalf("Sip(%#x, %#x, %d bytes) = %#x, want %#x", a, b, count, got, want)
			}
		}
	}
	for _, count := range []int{65535, 65536, 65537} {
		s := d.text(count)
		if got, want := impl.Sip(5, 6, s), longSip(5, 6, s); got != want {
			t.Errorf("Sip(5, 6, %d bytes) = %#x, want %#x", count, got, want)
		}
	}
}

func TestSumSipHangsOnEachByteAndKey(t *testing.T) {
	d := drawer(76)
	for _, count := range []int{0, 1, 7, 8, 9, 16, 255, 256} {
		s := d.text(count)
		a, b := d.long(), d.long()
		first := impl.Sip(a, b, s)
		others := []uint64{impl.Sip(a, b, s+"\x00"), impl.Sip(a, b, "\x00"+s), impl.Sip(a^1, b, s), impl.Sip(a, b^1, s), impl.Sip(a^1<<63, b, s), impl.Sip(a, b^1<<63, s)}
		if a != b {
			others = append(others, impl.Sip(b, a, s))
		}
		for place := range count {
			others = append(others, impl.Sip(a, b, changed(s, place, 128)), impl.Sip(a, b, changed(s, place, 1)))
		}
		for i, other := range others {
			if other == first {
				t.Errorf("%d bytes, change %d: Sip stays %#x", count, i, first)
			}
		}
	}
}

func TestSumsWrittenOut(t *testing.T) {
	for _, c := range []struct{ text, sum string }{
		{"", "8628af35e1cba77bc5cba74c47cc319a"},
		{"a", "4795cb2ed678fcf6e2c1eafe6a4eaf98"},
		{"abc", "d15ad05b2871319d7c0b4ba31287943e"},
		{"abcdefg", "0d4b1c5cdac56984f38cf3dc3239693a"},
		{"abcdefgh", "a4c333d6845a459c27472ce7c56a6701"},
		{"abcdefghi", "8791f3e42abcebe74ca8a0c75c6e82b7"},
		{"\x00", "3f7f7f034cc671d66fec00dacb8c6756"},
		{"\x80", "e17d88b61527999661ec74aebd18a256"},
		{strings.Repeat("\xff", 7), "c16873c030d7283e7e37d84ff92c0523"},
		{strings.Repeat("\xff", 8), "65a3e5210850d82e1b6a6e8ab55de21c"},
		{downText(15), "00ebbfa4c1736323d65d9af3695e5a76"},
		{strings.Repeat("\x00", 255), "38796211e011cb9b838f916f2005a23b"},
		{strings.Repeat("\x00", 256), "9c2ae2e2532794504869779758029457"},
		{strings.Repeat("\x00", 257), "6946b7e862326075872d0b79f56cbedc"},
		{allBytes(), "370bdd6ee995ea471cec2a73ab41cfa9"},
	} {
		if got := hex.EncodeToString([]byte(impl.Sum(c.text))); got != c.sum {
			t.Errorf("Sum(%.20q, %d bytes) = %s, want %s", c.text, len(c.text), got, c.sum)
		}
	}
}

func TestSumsAreTwoSips(t *testing.T) {
	d := drawer(77)
	for count := range 300 {
		s := d.text(count)
		got := impl.Sum(s)
		if len(got) != 16 {
			t.Fatalf("Sum of %d bytes has %d", count, len(got))
		}
		first, second := binary.BigEndian.Uint64([]byte(got)), binary.BigEndian.Uint64([]byte(got[8:]))
		if first != longSip(1, 2, s) || second != longSip(3, 4, s) {
			t.Fatalf("Sum of %d bytes = %x", count, got)
		}
		if want := impl.LongText(impl.Sip(1, 2, s)) + impl.LongText(impl.Sip(3, 4, s)); got != want {
			t.Fatalf("Sum of %d bytes = %x, want %x", count, got, want)
		}
	}
}

func TestSumLongText(t *testing.T) {
	for _, c := range []struct {
		x    uint64
		want string
	}{
		{0, "\x00\x00\x00\x00\x00\x00\x00\x00"},
		{1, "\x00\x00\x00\x00\x00\x00\x00\x01"},
		{255, "\x00\x00\x00\x00\x00\x00\x00\xff"},
		{256, "\x00\x00\x00\x00\x00\x00\x01\x00"},
		{258, "\x00\x00\x00\x00\x00\x00\x01\x02"},
		{1 << 63, "\x80\x00\x00\x00\x00\x00\x00\x00"},
		{0x6162636465666768, "abcdefgh"},
		{math.MaxUint64 - 1, "\xff\xff\xff\xff\xff\xff\xff\xfe"},
		{math.MaxUint64, "\xff\xff\xff\xff\xff\xff\xff\xff"},
	} {
		if got := impl.LongText(c.x); got != c.want {
			t.Errorf("LongText(%#x) = %q, want %q", c.x, got, c.want)
		}
	}
	d := drawer(78)
	for range 500 {
		x := d.long()
		if got := impl.LongText(x); len(got) != 8 || binary.BigEndian.Uint64([]byte(got)) != x {
			t.Fatalf("LongText(%#x) = %q", x, got)
		}
	}
}

func checkHex(t *testing.T, text string, digits string) {
	t.Helper()
	if got := impl.HexText(text); got != digits {
		t.Errorf("HexText(%.40q) = %.80q, want %.80q", text, got, digits)
	}
	if got, ok := impl.HexBytes(digits); !ok || got != text {
		t.Errorf("HexBytes(%.80q) = %.40q, %v, want %.40q", digits, got, ok, text)
	}
}

func checkNoHex(t *testing.T, s string) {
	t.Helper()
	if got, ok := impl.HexBytes(s); ok || got != "" {
		t.Errorf("HexBytes(%.80q) = %.40q, %v, want none", s, got, ok)
	}
}

func TestSumHexThereAndBack(t *testing.T) {
	checkHex(t, "", "")
	checkHex(t, "\x00", "00")
	checkHex(t, "\x0f\xf0", "0ff0")
	checkHex(t, "\x01\x23\x45\x67\x89\xab\xcd\xef", "0123456789abcdef")
	checkHex(t, "\xff\xff", "ffff")
	checkHex(t, "farstore", "66617273746f7265")
	checkHex(t, "ä€", "c3a4e282ac")
	checkHex(t, allBytes(), hex.EncodeToString([]byte(allBytes())))
	for x := range 256 {
		checkHex(t, string([]byte{byte(x)}), fmt.Sprintf("%02x", x))
	}
	d := drawer(79)
	for count := range 300 {
		s := d.text(count)
		checkHex(t, s, hex.EncodeToString([]byte(s)))
	}
	long := d.text(100000)
	checkHex(t, long, hex.EncodeToString([]byte(long)))
}

// isHexDigit is written out, so that it hangs on no order of the bytes.
func isHexDigit(b byte) bool {
	switch b {
	case '0', '1', '2', '3', '4', '5', '6', '7', '8', '9', 'a', 'b', 'c', 'd', 'e', 'f':
		return true
	}
	return false
}

func TestSumHexBytesRefusesEachOtherByte(t *testing.T) {
	for x := range 256 {
		b := byte(x)
		if isHexDigit(b) {
			continue
		}
		bad := string([]byte{b})
		for _, s := range []string{bad + "0", "0" + bad, bad + bad, "00" + bad + "f", "00f" + bad, bad + "000", "0" + bad + "00", "abcdef0" + bad} {
			checkNoHex(t, s)
		}
	}
}

func TestSumHexBytesRefuses(t *testing.T) {
	for _, s := range []string{
		"0", "f", "000", "abc", "0123456789abcdef0", // odd
		"0A", "A0", "AA", "0F", "F0", "FF", "00FF", "0B", "0C", "0D", "0E", "aB", "Ab", // capitals
		"0/", "/0", "0:", ":0", "0`", "`0", "0g", "g0", "0@", "@0", "0G", "G0", // right beside the digits
		"0x", "0x00", " 00", "00 ", " 0", "0 ", "-1", "+1", "0_", "00\n", "0\n", "\x00\x00", "0\x00",
		"\x80\x80", "0\x80", "\xb00", "0\xe1", "\xff\xff", "\xe10", "00\xff0", "ä", "00ä", "０", "０0", "٠٠",
	} {
		checkNoHex(t, s)
	}
}

func TestSumHexBytesRefusesOneBadDigitAnywhere(t *testing.T) {
	digits := strings.Repeat("0123456789abcdef", 4)
	for place := range len(digits) {
		for _, bad := range []string{"/", ":", "`", "g", "A", "F", "\x80", "\xff", "\x00"} {
			checkNoHex(t, digits[:place]+bad+digits[place+1:])
		}
		if place%2 == 1 {
			checkNoHex(t, digits[:place])
			checkNoHex(t, digits[place:])
		}
	}
}

func TestSumAnswersAreNewMemory(t *testing.T) {
	d := drawer(80)
	for _, count := range []int{1, 2, 7, 8, 9, 16, 40, 255, 1000} {
		for _, s := range []string{d.text(count), strings.Repeat("0", 2*count), impl.HexText(d.text(count))} {
			kept := strings.Clone(s)
			digits := impl.HexText(s)
			text, ok := impl.HexBytes(digits)
			again, _ := impl.HexBytes(s)
			if !ok || text != s {
				t.Fatalf("%d bytes do not come back", len(s))
			}
			checkOwnTexts(t, []string{impl.Sum(s), impl.Sum(s), digits, impl.HexText(s), text, again}, []string{s})
			if s != kept {
				t.Fatalf("a text of %d bytes was written into", count)
			}
		}
	}
	checkOwnTexts(t, []string{impl.LongText(0), impl.LongText(0), impl.LongText(1), impl.LongText(math.MaxUint64)}, nil)
}

func TestSumMixLeavesItsArgument(t *testing.T) {
	v := [4]uint64{1, 2, 3, 4}
	mixed := impl.Mix(v)
	mixed[0] = 0
	if v != [4]uint64{1, 2, 3, 4} {
		t.Errorf("Mix left %v", v)
	}
}

func TestSumKeepsNothing(t *testing.T) {
	for range 3 {
		first := impl.Sum("seven..")
		impl.Sip(9, 9, "a text of more than one long")
		impl.Sum("x")
		impl.HexBytes("0g")
		impl.Mix([4]uint64{5, 6, 7, 8})
		if second := impl.Sum("seven.."); second != first {
			t.Errorf("Sum answers %x, then %x", first, second)
		}
	}
}
