package md4_test

import (
	"bytes"
	"encoding/binary"
	"encoding/hex"
	"fmt"
	"math"
	"math/bits"
	"math/rand/v2"
	"strings"
	"testing"

	"fairlead/md4"
)

// modelRound is a round by the rules that its table follows, not by the table.
type modelRound struct {
	f     func(x, y, z uint64) uint64
	t     uint64
	word  func(i int) int
	turns [4]int
}

// modelRounds takes the numbers of the rounds from the roots that they stand for.
func modelRounds() [3]modelRound {
	root := func(n float64) uint64 { return uint64(math.Sqrt(n) * (1 << 30)) }
	return [3]modelRound{
		{func(x, y, z uint64) uint64 { return z ^ x&(y^z) }, 0, func(i int) int { return i }, [4]int{3, 7, 11, 19}},
		{func(x, y, z uint64) uint64 { return x&y ^ x&z ^ y&z }, root(2), func(i int) int { return 4*(i%4) + i/4 }, [4]int{3, 5, 9, 13}},
		{func(x, y, z uint64) uint64 { return x ^ y ^ z }, root(3), func(i int) int { return int(bits.Reverse8(uint8(i)) >> 4) }, [4]int{3, 9, 11, 15}},
	}
}

// modelPadded is b with its padding, the zero bytes counted out and not tried out.
func modelPadded(b []byte) []byte {
	zeros := ((55-len(b))%64 + 64) % 64
	p := append(bytes.Clone(b), 0x80)
	p = append(p, make([]byte, zeros)...)
	return binary.LittleEndian.AppendUint64(p, uint64(len(b))*8)
}

// model leaves each register where it is and goes round among them, with
// numbers of 64 bits that are cut to 32.
func model(b []byte) []byte {
	const modulus = 1 << 32
	state := [4]uint64{0x67452301, 0xefcdab89, 0x98badcfe, 0x10325476}
	for p := modelPadded(b); len(p) > 0; p = p[64:] {
		r := state
		for _, round := range modelRounds() {
			for i := range 16 {
				at := (4 - i%4) % 4
				x := uint64(binary.LittleEndian.Uint32(p[4*round.word(i):]))
				v := (r[at] + round.f(r[(at+1)%4], r[(at+2)%4], r[(at+3)%4]) + x + round.t) % modulus
				v <<= round.turns[i%4]
				r[at] = v%modulus + v/modulus
			}
		}
		for i := range state {
			state[i] = (state[i] + r[i]) % modulus
		}
	}
	var out []byte
	for _, v := range state {
		out = binary.LittleEndian.AppendUint32(out, uint32(v))
	}
	return out
}

// pattern is n bytes, each other than the one ahead of it, alike after 256.
func pattern(n int) []byte {
	b := make([]byte, n)
	for i := range b {
		b[i] = byte(7*i + 3)
	}
	return b
}

// randomBytes is n bytes, each value as likely as another.
func randomBytes(r *rand.Rand, n int) []byte {
	b := make([]byte, n)
	for i := range b {
		b[i] = byte(r.Uint32())
	}
	return b
}

// wantSum says what the input was, as it may be long.
func wantSum(t *testing.T, what string, b, want []byte) {
	t.Helper()
	if got := md4.Sum(b); !bytes.Equal(got, want) {
		t.Errorf("P6.1: %s: %X, want %X", what, got, want)
	}
}

// wantHex is wantSum with the digest in hexadecimal digits.
func wantHex(t *testing.T, what string, b []byte, want string) {
	t.Helper()
	digest, err := hex.DecodeString(strings.ReplaceAll(want, " ", ""))
	if err != nil {
		t.Fatal(err)
	}
	wantSum(t, what, b, digest)
}

// P6.1: the chapter's examples and the other texts of RFC 1320.
func TestSumOfKnownTexts(t *testing.T) {
	const letters = "abcdefghijklmnopqrstuvwxyz"
	for _, c := range []struct{ text, want string }{
		{"", "31D6CFE0 D16AE931 B73C59D7 E0C089C0"},
		{"a", "BDE52CB3 1DE33E46 245E05FB DBD6FB24"},
		{"abc", "A448017A AF21D852 5FC10AE8 7AA6729D"},
		{"message digest", "D9130A81 64549FE8 18874806 E1C7014B"},
		{letters, "D79E1C30 8AA5BBCD EEA8ED63 DF412DA9"},
		{strings.ToUpper(letters) + letters + "0123456789", "043F8582 F241DB35 1CE627E1 53E7F0E4"},
		{strings.Repeat("1234567890", 8), "E33B4DDC 9C38F219 9C3E7B16 4FCC0536"},
	} {
		wantHex(t, c.text, []byte(c.text), c.want)
	}
}

// P6.1: digests of another program, on either side of where the padding comes
// to 56 modulo 64 and of where a block ends.
func TestSumAroundPadding(t *testing.T) {
	for _, c := range []struct {
		n    int
		want string
	}{
		{1, "7A71B83FCD0CAF6FD77DE7573B0D24AB"},
		{54, "1A7B4C0C68C8AFF7A54CADBD019B02C5"},
		{55, "04D44DC3DBDCF7604F259009DE6E352F"},
		{56, "CDBC435E37E7A468D04702CF9EBA65BB"},
		{57, "64BC5541E510813B3FBB341A858DDE24"},
		{63, "45A8744E99878276C47927B0164921F4"},
		{64, "87733DBE6C3FC125EE30897C751BD9D6"},
		{65, "82DD3042D4378EF1B420F15C61975B8B"},
		{118, "99F41E814CC2D2B7774DAC8A1609CF9F"},
		{119, "2C38B59BE6919F10BA8BA7353EF288F7"},
		{120, "4414F924C8B7DA56AE0DBE0896989660"},
		{121, "E0B0100D20E4309CD4896E87A31E89AD"},
		{127, "49E367E1C262ED16D7ECB077E55C9352"},
		{128, "15CB31F3AF813097FD7A706B860C5E2E"},
		{129, "E09C1BD9574F43FBB57CB987A4A9C238"},
		{183, "9DA9AE85AEDAAFB37FD709278B786CC5"},
		{184, "9AB721B27AFC836A5A1B1781802A1F07"},
		{192, "503A27D4CB16733A9B13380AF9E2317E"},
	} {
		wantHex(t, fmt.Sprintf("%d bytes", c.n), pattern(c.n), c.want)
	}
}

// P6.1: digests of another program, of inputs of many blocks. From 8192 bytes
// on the number of bits has more than two bytes, from 2097152 on more than three.
func TestSumOfManyBlocks(t *testing.T) {
	for _, c := range []struct {
		what string
		b    []byte
		want string
	}{
		{"1000 bytes", pattern(1000), "9A27D966BF4984D8597862B1C33BFBBA"},
		{"8191 bytes", pattern(8191), "4829B52504067B95D53FADE48717111A"},
		{"8192 bytes", pattern(8192), "6A9905019BAC6F2FBB8CE7E532E51F3E"},
		{"8193 bytes", pattern(8193), "2BDE3DFEF79C51810A2A5F7764DE6CB1"},
		{"65536 bytes", pattern(65536), "90EBD2866C1CD77B90732B3DD56C09C7"},
		{"1000000 times a", bytes.Repeat([]byte("a"), 1000000), "BBCE80CC6BB65E5C6745E30D4EECA9A4"},
		{"2097152 zero bytes", make([]byte, 1<<21), "9F3C23DB7651EFBAC9A837A8A0AE3ED9"},
	} {
		wantHex(t, c.what, c.b, c.want)
	}
}

// P6.1: so many bytes that the number of bits does not go into 32 bits.
func TestSumOfManyBits(t *testing.T) {
	if testing.Short() {
		t.Skip("takes some seconds")
	}
	wantHex(t, "536870912 zero bytes", make([]byte, 1<<29), "1DDB4210749E8DB79D0240B66F7A2168")
}

// P6.1: every length up to some blocks, with bytes of each kind.
func TestSumOfEachLength(t *testing.T) {
	r := rand.New(rand.NewPCG(6, 1))
	for n := range 64*5 + 2 {
		for what, b := range map[string][]byte{
			"zero":    make([]byte, n),
			"full":    bytes.Repeat([]byte{0xff}, n),
			"mark":    bytes.Repeat([]byte{0x80}, n),
			"pattern": pattern(n),
			"random":  randomBytes(r, n),
		} {
			wantSum(t, fmt.Sprintf("%s, %d bytes", what, n), b, model(b))
		}
	}
}

// P6.1: any bytes of any length.
func TestSumOfRandomBytes(t *testing.T) {
	r := rand.New(rand.NewPCG(6, 2))
	for range 300 {
		b := randomBytes(r, r.IntN(5000))
		wantSum(t, fmt.Sprintf("%d random bytes", len(b)), b, model(b))
	}
}

// P6.1: each bit counts, in the first block and in later ones.
func TestSumOfEachBit(t *testing.T) {
	b := pattern(150)
	seen := map[string]int{string(md4.Sum(b)): -1}
	for i := range 8 * len(b) {
		b[i/8] ^= 1 << (i % 8)
		wantSum(t, fmt.Sprintf("bit %d changed", i), b, model(b))
		digest := string(md4.Sum(b))
		if other, ok := seen[digest]; ok {
			t.Errorf("P6.1: bits %d and %d: the same digest", i, other)
		}
		seen[digest] = i
		b[i/8] ^= 1 << (i % 8)
	}
}

// P6.1: bytes at the end of the input are not taken for the padding.
func TestSumOfPaddedInput(t *testing.T) {
	for _, n := range []int{0, 1, 55, 56, 63, 64, 119, 120} {
		b := pattern(n)
		for _, longer := range [][]byte{append(pattern(n), 0), append(pattern(n), 0x80), modelPadded(b)} {
			wantSum(t, fmt.Sprintf("%d bytes and a padding", n), longer, model(longer))
			if bytes.Equal(md4.Sum(longer), md4.Sum(b)) {
				t.Errorf("P6.1: %d bytes, with and without %X: the same digest", n, longer[n:])
			}
		}
	}
}

// P6.1 with R4: a nil list is an empty one.
func TestSumOfNothing(t *testing.T) {
	for _, b := range [][]byte{nil, {}, make([]byte, 0, 64), pattern(64)[64:]} {
		wantHex(t, "no bytes", b, "31D6CFE0D16AE931B73C59D7E0C089C0")
	}
}

// P6.1 with R4: the bytes stay, up to their capacity, and those behind them do not count.
func TestSumLeavesTheArgument(t *testing.T) {
	memory := pattern(400)
	for n := range 260 {
		b := memory[3 : 3+n]
		wantSum(t, fmt.Sprintf("%d bytes, more behind them", n), b, model(pattern(400)[3:3+n]))
		if !bytes.Equal(memory, pattern(400)) {
			t.Fatalf("R4: %d bytes: the argument changed", n)
		}
	}
}

// P6.1 with R4 and R5: each digest is memory of its own, and no call is seen in another.
func TestSumHandsOutNewMemory(t *testing.T) {
	for _, n := range []int{0, 1, 16, 55, 56, 64, 200} {
		b := pattern(n)
		want := model(b)
		first := md4.Sum(b)
		second := md4.Sum(b)
		clear(first[:cap(first)])
		if !bytes.Equal(second, want) || !bytes.Equal(b, pattern(n)) {
			t.Errorf("R4: %d bytes: a digest shares memory", n)
		}
		clear(b)
		if !bytes.Equal(second, want) {
			t.Errorf("R4: %d bytes: a digest changes with the argument", n)
		}
		md4.Sum(pattern(300))
		wantSum(t, fmt.Sprintf("%d bytes once more", n), pattern(n), want)
	}
}
