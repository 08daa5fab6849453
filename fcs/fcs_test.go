package fcs_test

import (
	"bytes"
	"hash/crc32"
	"math/bits"
	"math/rand/v2"
	"slices"
	"testing"

	"fairlead/fcs"
)

// kind is one of the two sums, with the calls that belong to it.
type kind struct {
	name   string
	size   int
	sum    func([]byte) uint32
	add    func([]byte) []byte
	check  func([]byte) ([]byte, bool)
	other  func([]byte) ([]byte, bool)
	normal uint32 // the polynomial, the highest power first
	magic  uint32 // the sum of anything with its sum behind it
}

func sum16(b []byte) uint32 { return uint32(fcs.Sum16(b)) }

var kinds = []kind{
	{"16", 2, sum16, fcs.Add, fcs.Check, fcs.Check32, 0x1021, 0x0f47},
	{"32", 4, fcs.Sum32, fcs.Add32, fcs.Check32, fcs.Check, 0x04c11db7, 0x2144df1c},
}

func eachKind(t *testing.T, f func(t *testing.T, k kind)) {
	for _, k := range kinds {
		t.Run(k.name, func(t *testing.T) { f(t, k) })
	}
}

// model divides the other way round from the chapter: all bits mirrored, the
// highest power first.
func (k kind) model(b []byte) uint32 {
	width := 8 * k.size
	top := uint32(1) << (width - 1)
	all := top<<1 - 1
	r := all
	for _, x := range b {
		r ^= uint32(bits.Reverse8(x)) << (width - 8)
		for range 8 {
			over := r&top != 0
			r = r << 1 & all
			if over {
				r ^= k.normal
			}
		}
	}
	return bits.Reverse32(r)>>(32-width) ^ all
}

// tail is the sum of b in bytes, the least significant one first.
func (k kind) tail(b []byte) []byte {
	s := k.model(b)
	return []byte{byte(s), byte(s >> 8), byte(s >> 16), byte(s >> 24)}[:k.size]
}

func wantCheck(t *testing.T, check func([]byte) ([]byte, bool), b, rest []byte, ok bool) {
	t.Helper()
	gotRest, gotOk := check(b)
	if gotOk != ok || !bytes.Equal(gotRest, rest) {
		t.Errorf("check of %X = %X, %v, want %X, %v", b, gotRest, gotOk, rest, ok)
	}
}

func randomBytes(g *rand.Rand, n int) []byte {
	b := make([]byte, n)
	for i := range b {
		b[i] = byte(g.Uint32())
	}
	return b
}

// samples are lists of many lengths, from the empty one on.
func samples() [][]byte {
	g := rand.New(rand.NewPCG(1, 2))
	l := [][]byte{nil, {}, {0}, {0xff}, {0, 0}, {0xff, 0xff, 0xff, 0xff}, make([]byte, 64), bytes.Repeat([]byte{0xff}, 64)}
	for n := range 70 {
		l = append(l, randomBytes(g, n))
	}
	return append(l, randomBytes(g, 1500), randomBytes(g, 4096), randomBytes(g, 70000))
}

// P2.1: the chapter's example, and sums that are worked out by hand or well known.
func TestSumExamples(t *testing.T) {
	cases := []struct {
		b     string
		want1 uint16
		want2 uint32
	}{
		{"123456789", 0x906e, 0xcbf43926},
		{"", 0, 0},
		{"\x00", 0xf078, 0xd202ef8d},
		{"\xff", 0xff00, 0xff000000},
		{"a", 0x82f7, 0xe8b7be43},
		{"\xff\xff", 0xffff, 0xffff0000},
		{"\xff\xff\xff\xff", 0x0f47, 0xffffffff},
		{"The quick brown fox jumps over the lazy dog", 0x9358, 0x414fa339},
	}
	for _, c := range cases {
		if got := fcs.Sum16([]byte(c.b)); got != c.want1 {
			t.Errorf("Sum16(%q) = %04X, want %04X", c.b, got, c.want1)
		}
		if got := fcs.Sum32([]byte(c.b)); got != c.want2 {
			t.Errorf("Sum32(%q) = %08X, want %08X", c.b, got, c.want2)
		}
	}
}

// P2.1: every byte alone, and lists of many lengths.
func TestSumLikeModel(t *testing.T) {
	eachKind(t, func(t *testing.T, k kind) {
		l := samples()
		for x := range 256 {
			l = append(l, []byte{byte(x)}, []byte{0x5a, byte(x), 0x7e})
		}
		for _, b := range l {
			if got, want := k.sum(b), k.model(b); got != want {
				t.Errorf("sum of %d bytes %X = %X, want %X", len(b), b[:min(len(b), 8)], got, want)
			}
		}
	})
}

// P2.1: Sum32 is the one that the library has too.
func TestSum32LikeLibrary(t *testing.T) {
	for _, b := range samples() {
		if got, want := fcs.Sum32(b), crc32.ChecksumIEEE(b); got != want {
			t.Errorf("Sum32 of %d bytes = %08X, want %08X", len(b), got, want)
		}
	}
}

// P2.1 with R5: a sum hangs on nothing that was computed ahead of it.
func TestSumSameAgain(t *testing.T) {
	eachKind(t, func(t *testing.T, k kind) {
		b := []byte("123456789")
		first := k.sum(b)
		k.sum([]byte{1, 2, 3})
		k.add(b)
		k.check(b)
		if got := k.sum(b); got != first {
			t.Errorf("sum of the same bytes = %X, then %X", first, got)
		}
	})
}

// P2.2: the sum comes last, its least significant byte first.
func TestAddExamples(t *testing.T) {
	cases := []struct{ b, want1, want2 string }{
		{"123456789", "123456789\x6e\x90", "123456789\x26\x39\xf4\xcb"},
		{"", "\x00\x00", "\x00\x00\x00\x00"},
		{"\x00", "\x00\x78\xf0", "\x00\x8d\xef\x02\xd2"},
	}
	for _, c := range cases {
		if got := fcs.Add([]byte(c.b)); string(got) != c.want1 {
			t.Errorf("Add(%q) = %X, want %X", c.b, got, c.want1)
		}
		if got := fcs.Add32([]byte(c.b)); string(got) != c.want2 {
			t.Errorf("Add32(%q) = %X, want %X", c.b, got, c.want2)
		}
		wantCheck(t, fcs.Check, []byte(c.want1), []byte(c.b), true)
		wantCheck(t, fcs.Check32, []byte(c.want2), []byte(c.b), true)
	}
}

// P2.2: Add of lists of many lengths.
func TestAddLikeModel(t *testing.T) {
	eachKind(t, func(t *testing.T, k kind) {
		for _, b := range samples() {
			if got := k.add(b); !bytes.Equal(got, slices.Concat(b, k.tail(b))) {
				t.Errorf("add to %d bytes gave %d bytes, the last of them %X, want %X", len(b), len(got), got[max(0, len(got)-k.size):], k.tail(b))
			}
		}
	})
}

// P2.2: what is shorter than a sum has none, also where it is a part of one.
func TestCheckTooShort(t *testing.T) {
	eachKind(t, func(t *testing.T, k kind) {
		wantCheck(t, k.check, nil, nil, false)
		for n := range k.size {
			wantCheck(t, k.check, make([]byte, n), nil, false)
			wantCheck(t, k.check, bytes.Repeat([]byte{0xff}, n), nil, false)
			wantCheck(t, k.check, k.add([]byte{7})[:n], nil, false)
		}
		wantCheck(t, k.check, make([]byte, k.size), nil, true)
	})
}

// P2.2: lists of the size of a sum, of which only that of zeros is the sum of no bytes.
func TestCheckOfSumAlone(t *testing.T) {
	for x := range 1 << 16 {
		wantCheck(t, fcs.Check, []byte{byte(x), byte(x >> 8)}, nil, x == 0)
	}
	for x := uint32(1); x != 0; x <<= 1 {
		b := []byte{byte(x), byte(x >> 8), byte(x >> 16), byte(x >> 24)}
		wantCheck(t, fcs.Check32, b, nil, false)
	}
}

// P2.2: no other last bytes than the sum will do, in no other order, and of none of them.
func TestCheckWrongTail(t *testing.T) {
	eachKind(t, func(t *testing.T, k kind) {
		b := []byte("123456789")
		tail := k.tail(b)
		mirrored := slices.Clone(tail)
		slices.Reverse(mirrored)
		wantCheck(t, k.check, slices.Concat(b, mirrored), nil, false)
		wantCheck(t, k.check, slices.Concat(tail, b), nil, false)
		wantCheck(t, k.check, b, nil, false)
		wantCheck(t, k.check, slices.Concat(b, tail[:k.size-1]), nil, false)
		wantCheck(t, k.check, slices.Concat(b, tail, []byte{0}), nil, false)
		for i := range tail {
			for x := range 256 {
				other := slices.Concat(b, tail)
				other[len(b)+i] = byte(x)
				if byte(x) == tail[i] {
					wantCheck(t, k.check, other, b, true)
				} else {
					wantCheck(t, k.check, other, nil, false)
				}
			}
		}
	})
}

// P2.2: the sums do not stand in for one another.
func TestCheckOtherKind(t *testing.T) {
	eachKind(t, func(t *testing.T, k kind) {
		for _, b := range samples() {
			if len(b) > 0 {
				wantCheck(t, k.other, k.add(b), nil, false)
			}
		}
	})
}

// P2.2: a check of bytes drawn is true just where their end is their sum.
func TestCheckLikeModel(t *testing.T) {
	g := rand.New(rand.NewPCG(2, 2))
	eachKind(t, func(t *testing.T, k kind) {
		for range 3000 {
			b := randomBytes(g, g.IntN(8))
			if len(b) >= k.size && bytes.Equal(b[len(b)-k.size:], k.tail(b[:len(b)-k.size])) {
				wantCheck(t, k.check, b, b[:len(b)-k.size], true)
			} else {
				wantCheck(t, k.check, b, nil, false)
			}
		}
	})
}

// P2.3: a check gives back what was added to, once for each time it was.
func TestCheckOfAdd(t *testing.T) {
	eachKind(t, func(t *testing.T, k kind) {
		for _, b := range samples() {
			once := k.add(b)
			twice := k.add(once)
			wantCheck(t, k.check, twice, once, true)
			wantCheck(t, k.check, once, b, true)
			if got := k.sum(once); got != k.magic {
				t.Errorf("sum of %d bytes and their sum = %X, want %X", len(b), got, k.magic)
			}
		}
	})
}

// P2.3: each single bit that changes is detected, in the bytes and in their sum.
func TestSingleBit(t *testing.T) {
	g := rand.New(rand.NewPCG(3, 2))
	eachKind(t, func(t *testing.T, k kind) {
		for _, n := range []int{0, 1, 2, 3, 4, 5, 17, 64, 300} {
			for _, b := range [][]byte{make([]byte, n), randomBytes(g, n)} {
				whole := k.add(b)
				for i := range 8 * len(whole) {
					whole[i/8] ^= 1 << (i % 8)
					wantCheck(t, k.check, whole, nil, false)
					whole[i/8] ^= 1 << (i % 8)
				}
				wantCheck(t, k.check, whole, b, true)
			}
		}
	})
}

// P2.3: single bits of a long list, at its ends and in its midst.
func TestSingleBitOfLong(t *testing.T) {
	g := rand.New(rand.NewPCG(4, 2))
	eachKind(t, func(t *testing.T, k kind) {
		whole := k.add(randomBytes(g, 70000))
		for _, at := range []int{0, 1, 4095, 4096, 8191, 32767, 65535, 65536, 69999, 70000, len(whole) - 1} {
			for bit := range 8 {
				whole[at] ^= 1 << bit
				if _, ok := k.check(whole); ok {
					t.Errorf("bit %d of byte %d: not detected", bit, at)
				}
				whole[at] ^= 1 << bit
			}
		}
	})
}

// P2.1 and P2.2 with R4: no argument is changed, nor what lies behind it, and no result shares its memory.
func TestSharesNothing(t *testing.T) {
	eachKind(t, func(t *testing.T, k kind) {
		whole := append(k.add([]byte{1, 2, 3}), 4, 5, 6, 7, 8, 9)
		before := slices.Clone(whole)
		n := 3 + k.size
		k.sum(whole[:n])
		rest, ok := k.check(whole[:n])
		longer := k.add(whole[:n])
		if !bytes.Equal(whole, before) {
			t.Fatalf("the argument was changed: %X, was %X", whole, before)
		}
		fill(rest)
		fill(longer)
		if !ok || !bytes.Equal(whole, before) {
			t.Errorf("a change of a result is seen in the argument: %X, was %X", whole, before)
		}
		rest, _ = k.check(whole[:n])
		longer = k.add(whole[:n])
		fill(whole)
		if !bytes.Equal(rest, before[:3]) || !bytes.Equal(longer[:n], before[:n]) {
			t.Errorf("a change of the argument is seen in a result: %X, %X", rest, longer)
		}
	})
}

// fill writes over a list, up to its capacity.
func fill(b []byte) {
	b = b[:cap(b)]
	for i := range b {
		b[i] = 0xee
	}
}

// P2.2 with R2: beside false there is nothing.
func TestNothingBesideFalse(t *testing.T) {
	eachKind(t, func(t *testing.T, k kind) {
		for n := range 12 {
			b := bytes.Repeat([]byte{0x55}, n)
			if rest, ok := k.check(b); ok || len(rest) > 0 {
				t.Errorf("check of %X = %X, %v, want nothing and false", b, rest, ok)
			}
		}
	})
}
