package rc4_test

import (
	"bytes"
	oracle "crypto/rc4"
	"encoding/hex"
	"fmt"
	"math"
	"math/rand/v2"
	"strings"
	"testing"

	"fairlead/api"
	"fairlead/rc4"
)

// newCipher is a cipher of New, with a key that it takes.
func newCipher(t *testing.T, key []byte) *rc4.Cipher {
	t.Helper()
	c, err := rc4.New(key)
	if err != api.OK || c == nil {
		t.Fatalf("New of %d bytes: %v, %d", len(key), c, err)
	}
	return c
}

// randomBytes is n bytes, each value as likely as another.
func randomBytes(r *rand.Rand, n int) []byte {
	b := make([]byte, n)
	for i := range b {
		b[i] = byte(r.IntN(256))
	}
	return b
}

// fromHex is the bytes of a text of hexadecimal digits and spaces.
func fromHex(t *testing.T, s string) []byte {
	t.Helper()
	b, err := hex.DecodeString(strings.ReplaceAll(s, " ", ""))
	if err != nil {
		t.Fatal(err)
	}
	return b
}

// wantBytes tells the first place where the bytes differ, as there may be many.
func wantBytes(t *testing.T, what string, got, want []byte) {
	t.Helper()
	if len(got) != len(want) {
		t.Errorf("%s: %d bytes, want %d", what, len(got), len(want))
		return
	}
	for i := range got {
		if got[i] != want[i] {
			t.Errorf("%s: byte %d is %02X, want %02X", what, i, got[i], want[i])
			return
		}
	}
}

func wantOffset(t *testing.T, what string, c *rc4.Cipher, want int) {
	t.Helper()
	if got := c.Offset(); got != want {
		t.Errorf("%s: offset %d, want %d", what, got, want)
	}
}

// P5.1: the lengths of keys that New takes, and R2: nothing beside an error.
func TestNewOfEachLength(t *testing.T) {
	for n := 1; n <= 256; n++ {
		wantOffset(t, "a new cipher", newCipher(t, make([]byte, n)), 0)
	}
	for _, key := range [][]byte{nil, {}, make([]byte, 257), make([]byte, 258), make([]byte, 512), make([]byte, 1<<16), make([]byte, 1<<16+1)} {
		if c, err := rc4.New(key); c != nil || err != api.ErrArg {
			t.Errorf("P5.1: New of %d bytes: %v, %d", len(key), c, err)
		}
	}
}

// P5.1: the chapter's example and other published ones.
func TestXorOfKnownTexts(t *testing.T) {
	for _, c := range []struct{ key, text, want string }{
		{"Key", "Plaintext", "BB F3 16 E8 D9 40 AF 0A D3"},
		{"Wiki", "pedia", "10 21 BF 04 20"},
		{"Secret", "Attack at dawn", "45 A0 1F 64 5F C3 5B 38 35 52 54 4B 9B F5"},
		{"Key", "", ""},
	} {
		got := newCipher(t, []byte(c.key)).Xor([]byte(c.text))
		wantBytes(t, "P5.1: "+c.key, got, fromHex(t, c.want))
	}
}

// P5.1: key streams of RFC 6229, where they begin and further on.
func TestKeyStreams(t *testing.T) {
	for _, c := range []struct {
		key  string
		at   int
		want string
	}{
		{"0102030405", 0, "B2 39 63 05 F0 3D C0 27 CC C3 52 4A 0A 11 18 A8"},
		{"0102030405", 16, "69 82 94 4F 18 FC 82 D5 89 C4 03 A4 7A 0D 09 19"},
		{"0102030405060708", 0, "97 AB 8A 1B F0 AF B9 61 32 F2 F6 72 58 DA 15 A8"},
		{"0102030405060708090a0b0c0d0e0f10", 0, "9A C7 CC 9A 60 9D 1E F7 B2 93 28 99 CD E4 1B 97"},
	} {
		stream := newCipher(t, fromHex(t, c.key)).Xor(make([]byte, c.at+16))
		wantBytes(t, "P5.1: "+c.key, stream[c.at:], fromHex(t, c.want))
	}
}

// P5.1: keys of each length and any bytes, so far that the places in the table
// go round some times.
func TestXorAgainstOracle(t *testing.T) {
	r := rand.New(rand.NewPCG(5, 1))
	for n := 1; n <= 256; n++ {
		for _, key := range [][]byte{randomBytes(r, n), make([]byte, n), bytes.Repeat([]byte{0xff}, n)} {
			o, err := oracle.NewCipher(key)
			if err != nil {
				t.Fatal(err)
			}
			b := randomBytes(r, 1000)
			want := make([]byte, len(b))
			o.XORKeyStream(want, b)
			wantBytes(t, fmt.Sprintf("P5.1: a key of %d bytes", n), newCipher(t, key).Xor(b), want)
		}
	}
}

// P5.1: far into the key stream.
func TestXorOfManyBytes(t *testing.T) {
	r := rand.New(rand.NewPCG(5, 2))
	key := randomBytes(r, 16)
	o, err := oracle.NewCipher(key)
	if err != nil {
		t.Fatal(err)
	}
	want := make([]byte, 1<<18)
	o.XORKeyStream(want, want)
	c := newCipher(t, key)
	wantBytes(t, "P5.1: many bytes", c.Xor(make([]byte, 1<<18)), want)
	wantOffset(t, "P5.1: many bytes", c, 1<<18)
}

// both are a cipher of each kind, made anew.
func both(t *testing.T) map[string]*rc4.Cipher {
	t.Helper()
	return map[string]*rc4.Cipher{"keyed": newCipher(t, []byte("Key")), "symbolic": rc4.Symbol(3)}
}

// P5.1: the offset counts the bytes, and nothing else counts.
func TestOffset(t *testing.T) {
	for name, c := range both(t) {
		want := 0
		wantOffset(t, "P5.1: "+name, c, want)
		for _, n := range []int{0, 1, 0, 0, 9, 255, 256, 257, 65536, 1} {
			if got := c.Xor(make([]byte, n)); len(got) != n {
				t.Errorf("P5.1: %s: %d bytes for %d", name, len(got), n)
			}
			want += n
			wantOffset(t, "P5.1: "+name, c, want)
			c.Clone().Xor([]byte("abc"))
			wantOffset(t, "P5.1: "+name+", cloned", c, want)
		}
		c.Xor(nil)
		wantOffset(t, "P5.1: "+name+", no bytes", c, want)
	}
}

// modelSymbol is byte k of what the symbolic cipher of id answers. The id is
// brought below 256 first, so that nothing wraps round.
func modelSymbol(id, k int) byte {
	id = (id%256 + 256) % 256
	return byte((31*id + 7*k + k/256) % 256)
}

// P5.2: any id, and offsets so far that k / 256 goes beyond a byte.
func TestSymbol(t *testing.T) {
	r := rand.New(rand.NewPCG(5, 3))
	for _, id := range []int{0, 1, 2, 8, 9, 255, 256, 257, 1 << 20, math.MaxInt32, math.MaxInt, math.MaxInt - 1, -1, -2, -255, -256, -257, math.MinInt, math.MinInt + 1} {
		c := rc4.Symbol(id)
		want := make([]byte, 1<<17)
		for k := range want {
			want[k] = modelSymbol(id, k)
		}
		wantBytes(t, fmt.Sprintf("P5.2: Symbol(%d)", id), c.Xor(randomBytes(r, len(want))), want)
		wantOffset(t, "P5.2: Symbol", c, len(want))
	}
}

// P5.2: some bytes worked out by hand.
func TestSymbolOfFewBytes(t *testing.T) {
	for _, c := range []struct {
		id, skip int
		want     string
	}{
		{0, 0, "00 07 0E 15"},
		{1, 0, "1F 26 2D 34"},
		{-1, 0, "E1 E8 EF F6"},
		{8, 1, "FF 06 0D"},
		{9, 0, "17 1E 25"},
		{0, 254, "F2 F9 01 08"},
		{0, 36, "FC 03 0A"},
		{0, 65534, "F1 F8 00 07"},
	} {
		s := rc4.Symbol(c.id)
		s.Xor(make([]byte, c.skip))
		want := fromHex(t, c.want)
		wantBytes(t, fmt.Sprintf("P5.2: Symbol(%d) from %d on", c.id, c.skip), s.Xor(make([]byte, len(want))), want)
	}
}

// P5.2: the contents do not show, the number of bytes does.
func TestSymbolHidesContents(t *testing.T) {
	r := rand.New(rand.NewPCG(5, 4))
	a, b := rc4.Symbol(7), rc4.Symbol(7)
	for range 200 {
		n := r.IntN(40)
		wantBytes(t, "P5.2: other contents", a.Xor(randomBytes(r, n)), b.Xor(randomBytes(r, n)))
	}
}

// P5.2: a clone goes on where its origin stands, and each of them by itself.
func TestClone(t *testing.T) {
	for _, skip := range []int{0, 1, 255, 256, 300, 70000} {
		whole := make(map[string][]byte)
		for name, c := range both(t) {
			whole[name] = c.Xor(make([]byte, skip+200))[skip:]
		}
		for name, c := range both(t) {
			what := fmt.Sprintf("P5.2: %s, %d bytes ahead", name, skip)
			want := whole[name]
			c.Xor(make([]byte, skip))
			d := c.Clone()
			wantOffset(t, what+", clone", d, skip)
			wantBytes(t, what+", clone", d.Xor(make([]byte, 100)), want[:100])
			wantOffset(t, what+", origin", c, skip)
			wantBytes(t, what+", origin", c.Xor(make([]byte, 50)), want[:50])
			wantOffset(t, what+", clone", d, skip+100)
			e := c.Clone().Clone()
			wantBytes(t, what+", clone further on", d.Xor(make([]byte, 100)), want[100:])
			wantBytes(t, what+", origin further on", c.Xor(make([]byte, 150)), want[50:])
			wantBytes(t, what+", clone of a clone", e.Xor(make([]byte, 150)), want[50:])
			wantOffset(t, what+", clone of a clone", e, skip+200)
		}
	}
}

// P5.3: an equal cipher turns the bytes back.
func TestXorUndoes(t *testing.T) {
	r := rand.New(rand.NewPCG(5, 5))
	for range 300 {
		key := randomBytes(r, 1+r.IntN(256))
		a, b := newCipher(t, key), newCipher(t, key)
		for range 4 {
			text := randomBytes(r, r.IntN(400))
			c := a.Clone()
			turned := a.Xor(text)
			wantBytes(t, "P5.3: an equal cipher", b.Xor(turned), text)
			wantBytes(t, "P5.3: a clone", c.Xor(turned), text)
		}
	}
}

// P5.3: parts are as good as the whole, in every division into two and in others.
func TestXorInParts(t *testing.T) {
	r := rand.New(rand.NewPCG(5, 6))
	text := randomBytes(r, 600)
	whole := make(map[string][]byte)
	for name, c := range both(t) {
		whole[name] = c.Xor(text)
	}
	for i := range len(text) + 1 {
		for name, c := range both(t) {
			got := append(c.Xor(text[:i]), c.Xor(text[i:])...)
			wantBytes(t, fmt.Sprintf("P5.3: %s, two parts at %d", name, i), got, whole[name])
		}
	}
	for range 200 {
		for name, c := range both(t) {
			var got []byte
			for len(got) < len(text) {
				n := min(r.IntN(70), len(text)-len(got))
				got = append(got, c.Xor(text[len(got):len(got)+n])...)
			}
			wantBytes(t, "P5.3: "+name+", some parts", got, whole[name])
		}
	}
}

// R5: what one cipher is given says nothing of another of the same key.
func TestCiphersAreApart(t *testing.T) {
	a, b := both(t), both(t)
	for name, c := range both(t) {
		want := c.Xor(make([]byte, 20))
		a[name].Xor(make([]byte, 333))
		wantBytes(t, "R5: "+name, b[name].Xor(make([]byte, 20)), want)
	}
}

// P5.1 with R4: the key stays, up to its capacity, and is not kept.
func TestNewLeavesTheKey(t *testing.T) {
	memory := []byte("Keyfurther")
	c := newCipher(t, memory[:3])
	wantBytes(t, "R4: the key", memory, []byte("Keyfurther"))
	clear(memory)
	wantBytes(t, "R4: a key that changed since", c.Xor([]byte("Plaintext")), fromHex(t, "BB F3 16 E8 D9 40 AF 0A D3"))
}

// P5.1 with R4: the bytes stay, up to their capacity, and the answer shares
// nothing with them nor with the cipher.
func TestXorHandsOutNewMemory(t *testing.T) {
	for name, c := range both(t) {
		d := c.Clone()
		memory := []byte("Plaintextfurther")
		first := c.Xor(memory[:9])
		wantBytes(t, "R4: "+name+", the argument", memory, []byte("Plaintextfurther"))
		want := bytes.Clone(first)
		clear(memory)
		wantBytes(t, "R4: "+name+", an argument that changed since", first, want)
		clear(first[:cap(first)])
		wantBytes(t, "R4: "+name+", the argument of old", memory, make([]byte, len(memory)))
		d.Xor([]byte("Plaintext"))
		wantBytes(t, "R4: "+name+", the next bytes", c.Xor(make([]byte, 50)), d.Xor(make([]byte, 50)))
	}
}

// P5.1 and P5.2 with R7: a cipher that neither New nor Symbol nor Clone made.
func TestCipherNotMade(t *testing.T) {
	for name, c := range map[string]*rc4.Cipher{"nil": nil, "zero": {}} {
		for range 2 {
			if got := c.Xor([]byte("abc")); got != nil {
				t.Errorf("R7: %s: Xor: % X", name, got)
			}
			wantOffset(t, "R7: "+name, c, 0)
			if d := c.Clone(); d != nil {
				t.Errorf("R7: %s: Clone: %v", name, d)
			}
		}
	}
}
