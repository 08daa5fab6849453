package sha_test

import (
	"bytes"
	"crypto/sha1"
	"encoding/binary"
	"fmt"
	"math/rand/v2"
	"strings"
	"testing"

	"fairlead/sha"
)

// pattern is n bytes, each other than the one ahead of it, alike after 256.
func pattern(n int) []byte {
	b := make([]byte, n)
	for i := range b {
		b[i] = byte(7*i + 3)
	}
	return b
}

// wantHex says what the input was, as it may be long.
func wantHex(t *testing.T, what string, b []byte, want string) {
	t.Helper()
	if got := fmt.Sprintf("%X", sha.Sum(b)); got != strings.ReplaceAll(want, " ", "") {
		t.Errorf("P7.1: %s: %s, want %s", what, got, want)
	}
}

// wantModel holds the digest against the library's, twice, with the first one
// overwritten in between, and the bytes of b, up to its capacity, against what they were.
func wantModel(t *testing.T, what string, b []byte) {
	t.Helper()
	before := bytes.Clone(b[:cap(b)])
	want := sha1.Sum(b)
	for range 2 {
		got := sha.Sum(b)
		if !bytes.Equal(got, want[:]) {
			t.Errorf("P7.1: %s: %X, want %X", what, got, want)
		}
		clear(got[:cap(got)])
		if !bytes.Equal(b[:cap(b)], before) {
			t.Fatalf("R4: %s: the argument changed", what)
		}
	}
}

// P7.1: the chapter's examples and other published texts, of one block and of several.
func TestSumOfKnownTexts(t *testing.T) {
	for _, c := range []struct{ text, want string }{
		{"", "DA39A3EE 5E6B4B0D 3255BFEF 95601890 AFD80709"},
		{"a", "86F7E437 FAA5A7FC E15D1DDC B9EAEAEA 377667B8"},
		{"abc", "A9993E36 4706816A BA3E2571 7850C26C 9CD0D89D"},
		{"message digest", "C12252CE DA8BE899 4D5FA029 0A47231C 1D16AAE3"},
		{"abcdefghijklmnopqrstuvwxyz", "32D10C7B 8CF96570 CA04CE37 F2A19D84 240D3A89"},
		{"abcdbcdecdefdefgefghfghighijhijkijkljklmklmnlmnomnopnopq", "84983E44 1C3BD26E BAAE4AA1 F95129E5 E54670F1"},
		{"abcdefghbcdefghicdefghijdefghijkefghijklfghijklmghijklmnhijklmnoijklmnopjklmnopqklmnopqrlmnopqrsmnopqrstnopqrstu",
			"A49B2446 A02C645B F419F995 B6709125 3A04A259"},
		{strings.Repeat("01234567", 80), "DEA356A2 CDDD90C7 A7ECEDC5 EBB56393 4F460452"},
	} {
		wantHex(t, c.text, []byte(c.text), c.want)
	}
}

// P7.1: digests of another program, on either side of where the padding comes
// to 56 modulo 64, of where a block ends, and of where the number of bits takes a third byte.
func TestSumOfKnownPatterns(t *testing.T) {
	for _, c := range []struct {
		n    int
		want string
	}{
		{1, "9842926AF7CA0A8CCA12604F945414F07B01E13D"},
		{54, "0617D0E2DB51B03D5D09C217B3FE0643ED6D152F"},
		{55, "DDF57317EF34BFEE3B6DF83D359098930EB278BC"},
		{56, "A0D492BB0FC889D0ECA3BC137066AB6F4F74F369"},
		{57, "11A02DCF95859677A62E75024067C22B165D890F"},
		{63, "C55856749BEF509BDFE6BFEBFC7BF4E793E82132"},
		{64, "BEDE92BE29C3874E1B54DDC77988D606FC857A8E"},
		{65, "B05A80522B053D6DC7E0A517D0E70212C7DAD11F"},
		{118, "55BFBDE27C9ACB13670A70E765A687B2DA3435FC"},
		{119, "504E27376A6E0F0DBA8295B85CB25DC4DFA17D23"},
		{120, "82134B02FB3F702491BE9BED581EEAB59334ACB2"},
		{121, "F004A54C50AA3705CCC2F03F21016CA6A25755CB"},
		{127, "34D5E582029E9B9B85B2FEBE31DA3DB7CDABAAEA"},
		{128, "A09133E6730FFE899EFB70204CB5646CD5DC24EE"},
		{129, "808AEA332CE367541D37ADAE7F94E59C5C1A934E"},
		{183, "4EFB0F6868187C46710ADEDF4854BF058F80884E"},
		{184, "8B065304A2F4298AC4C002C99AEFFF091E7404C3"},
		{192, "D4A590A7CFCB57EFD1733AAC508A22D4FEA1B6E9"},
		{1000, "4231A8A50A10FA9758DB8EC71FDEF855B751048A"},
		{8191, "39018E5C9C6764D205E57B60F2D710D9DE8F646B"},
		{8192, "4326BD121C08C92450B6E0F34739F1459EBAADA0"},
		{8193, "DE3430F316C79D091F48E6069D1AFA91A147898B"},
		{65536, "A1CCA882A3D01A8DC1A538828D6A69B4EC08AAB0"},
	} {
		wantHex(t, fmt.Sprintf("%d bytes", c.n), pattern(c.n), c.want)
	}
}

// P7.1: digests of another program, where the number of bits takes three bytes and four.
func TestSumOfManyBlocks(t *testing.T) {
	wantHex(t, "1000000 times a", bytes.Repeat([]byte("a"), 1000000), "34AA973CD4C4DAA4F61EEB2BDBAD27316534016F")
	wantHex(t, "2097152 zero bytes", make([]byte, 1<<21), "7D76D48D64D7AC5411D714A4BB83F37E3E5B8DF6")
}

// P7.1: so many bytes that the number of bits does not go into 32 bits.
func TestSumOfManyBits(t *testing.T) {
	if testing.Short() {
		t.Skip("takes some seconds")
	}
	wantHex(t, "536870912 zero bytes", make([]byte, 1<<29), "5B088492C9F4778F409B7AE61477DEC124C99033")
}

// P7.1, with R4 and R5: every length up to some blocks, with other bytes behind
// the end and the same ones in every place.
func TestSumOfEachLength(t *testing.T) {
	long := pattern(400)
	for n := range 64*5 + 2 {
		wantModel(t, fmt.Sprintf("%d bytes of a pattern", n), long[3:3+n])
		for _, x := range []byte{0, 0x80, 0xff} {
			wantModel(t, fmt.Sprintf("%d times %X", n, x), bytes.Repeat([]byte{x}, n))
		}
	}
}

// P7.1: any bytes of any length.
func TestSumOfRandomBytes(t *testing.T) {
	r := rand.NewChaCha8([32]byte{7})
	for n := 0; n < 5000; n += 17 {
		b := make([]byte, n)
		r.Read(b)
		wantModel(t, fmt.Sprintf("%d random bytes", n), b)
	}
}

// P7.1: each bit counts, in the first block and in later ones.
func TestSumOfEachBit(t *testing.T) {
	b := pattern(150)
	seen := map[string]bool{string(sha.Sum(b)): true}
	for i := range 8 * len(b) {
		mask := byte(1) << (i % 8)
		b[i/8] ^= mask
		wantModel(t, fmt.Sprintf("bit %d changed", i), b)
		seen[string(sha.Sum(b))] = true
		b[i/8] ^= mask
	}
	if len(seen) != 8*len(b)+1 {
		t.Errorf("P7.1: %d digests of %d inputs", len(seen), 8*len(b)+1)
	}
}

// P7.1: bytes at the end of the input are not taken for the padding.
func TestSumOfPaddedInput(t *testing.T) {
	for _, n := range []int{0, 1, 55, 56, 63, 64, 119, 120} {
		mark := append(pattern(n), 0x80)
		zeros := append(mark, make([]byte, (64*3-n-9)%64)...)
		whole := binary.BigEndian.AppendUint64(zeros, 8*uint64(n))
		seen := map[string]bool{string(sha.Sum(pattern(n))): true}
		for _, b := range [][]byte{append(pattern(n), 0), mark, whole} {
			wantModel(t, fmt.Sprintf("%d bytes, then %X", n, b[n:]), b)
			seen[string(sha.Sum(b))] = true
		}
		if len(seen) != 4 {
			t.Errorf("P7.1: %d bytes, with and without padding: %d digests of 4 inputs", n, len(seen))
		}
	}
}

// P7.1 with R4: a nil list is an empty one.
func TestSumOfNothing(t *testing.T) {
	for _, b := range [][]byte{nil, {}, make([]byte, 0, 64), pattern(64)[64:]} {
		wantHex(t, "no bytes", b, "DA39A3EE5E6B4B0D3255BFEF95601890AFD80709")
		wantModel(t, "no bytes", b)
	}
}

// P7.1 with R4: a digest does not change with the argument.
func TestSumKeepsNoArgument(t *testing.T) {
	for _, n := range []int{20, 55, 64, 200} {
		b := pattern(n)
		got, want := sha.Sum(b), sha1.Sum(b)
		clear(b)
		if !bytes.Equal(got, want[:]) {
			t.Errorf("R4: %d bytes: the digest changed with them", n)
		}
	}
}
