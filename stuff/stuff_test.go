package stuff_test

import (
	"bytes"
	"math/rand/v2"
	"testing"

	"fairlead/stuff"
)

// modelStuff replaces one byte value after the other in the whole list. The
// escape comes first, so that none is escaped that stands for another byte.
func modelStuff(b []byte, accm uint32) []byte {
	values := []byte{0x7d, 0x7e}
	for i := range 32 {
		if accm&(1<<i) != 0 {
			values = append(values, byte(i))
		}
	}
	for _, v := range values {
		b = bytes.ReplaceAll(b, []byte{v}, []byte{0x7d, v ^ 0x20})
	}
	return bytes.Join([][]byte{{0x7e}, b, {0x7e}}, nil)
}

// randomBytes is n bytes of which about half are flags, escapes, what they
// become when they are escaped, and control characters.
func randomBytes(r *rand.Rand, n int) []byte {
	special := []byte{0x7e, 0x7d, 0x7d, 0x5e, 0x5d, 0x20}
	b := make([]byte, n)
	for i := range b {
		switch r.IntN(4) {
		case 0:
			b[i] = special[r.IntN(len(special))]
		case 1:
			b[i] = byte(r.IntN(33))
		default:
			b[i] = byte(r.IntN(256))
		}
	}
	return b
}

// randomMap is a map of control characters: none, all, or some.
func randomMap(r *rand.Rand) uint32 {
	switch r.IntN(4) {
	case 0:
		return 0
	case 1:
		return 0xffffffff
	}
	return r.Uint32()
}

func wantBytes(t *testing.T, what string, got, want []byte) {
	t.Helper()
	if !bytes.Equal(got, want) {
		t.Errorf("%s: % X, want % X", what, got, want)
	}
}

func TestStuffOfFewBytes(t *testing.T) {
	for _, c := range []struct {
		what string
		b    []byte
		accm uint32
		want []byte
	}{
		{"the example", []byte{0x7e, 5, 0x41}, 1 << 5, []byte{0x7e, 0x7d, 0x5e, 0x7d, 0x25, 0x41, 0x7e}},
		{"no byte", nil, 0xffffffff, []byte{0x7e, 0x7e}},
		{"an empty list", []byte{}, 0, []byte{0x7e, 0x7e}},
		{"an escape", []byte{0x7d}, 0, []byte{0x7e, 0x7d, 0x5d, 0x7e}},
		{"what an escaped flag becomes", []byte{0x7d, 0x5e}, 0, []byte{0x7e, 0x7d, 0x5d, 0x5e, 0x7e}},
		{"byte 31, in the map", []byte{31}, 1 << 31, []byte{0x7e, 0x7d, 0x3f, 0x7e}},
		{"byte 31, not in the map", []byte{31}, 1<<31 - 1, []byte{0x7e, 31, 0x7e}},
		{"byte 0, in the map", []byte{0}, 1, []byte{0x7e, 0x7d, 0x20, 0x7e}},
		{"byte 0, not in the map", []byte{0}, 0xfffffffe, []byte{0x7e, 0, 0x7e}},
		{"byte 32", []byte{32}, 0xffffffff, []byte{0x7e, 32, 0x7e}},
	} {
		wantBytes(t, "P3.1: "+c.what, stuff.Stuff(c.b, c.accm), c.want)
	}
}

// P3.1: each byte with a map of none, of all, and of one control character.
func TestStuffOfEachByte(t *testing.T) {
	maps := []uint32{0, 0xffffffff}
	for i := range 32 {
		maps = append(maps, 1<<i, ^uint32(1<<i))
	}
	for _, accm := range maps {
		for x := range 256 {
			want := []byte{0x7e, byte(x), 0x7e}
			if x == 0x7d || x == 0x7e || x < 32 && accm&(1<<x) != 0 {
				want = []byte{0x7e, 0x7d, byte(x) ^ 0x20, 0x7e}
			}
			if got := stuff.Stuff([]byte{byte(x)}, accm); !bytes.Equal(got, want) {
				t.Fatalf("byte %02X, map %08X: % X, want % X", x, accm, got, want)
			}
		}
	}
}

// P3.1 with R5: long lists, twice.
func TestStuffAgainstModel(t *testing.T) {
	r := rand.New(rand.NewPCG(3, 1))
	for range 500 {
		b, accm := randomBytes(r, r.IntN(200)), randomMap(r)
		want := modelStuff(b, accm)
		wantBytes(t, "first", stuff.Stuff(b, accm), want)
		wantBytes(t, "again", stuff.Stuff(b, accm), want)
	}
}

// P3.1 with R4: the argument stays, up to its capacity, and shares nothing with the answer.
func TestStuffLeavesItsArgument(t *testing.T) {
	whole := []byte{1, 0x7e, 0x7d, 2, 0xaa, 0xaa, 0xaa, 0xaa}
	keep := bytes.Clone(whole)
	got := stuff.Stuff(whole[:4], 1<<1)
	wantBytes(t, "the argument after the call", whole, keep)
	want := bytes.Clone(got)
	got = got[:cap(got)]
	for i := range got {
		got[i] = 0x55
	}
	wantBytes(t, "the argument after the answer changed", whole, keep)
	got = stuff.Stuff(whole[:4], 1<<1)
	for i := range whole {
		whole[i] = 0x33
	}
	wantBytes(t, "the answer after the argument changed", got, want)
}
