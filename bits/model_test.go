package bits_test

import (
	"bytes"
	"math/rand/v2"
	"testing"

	"fairlead/bits"
)

// The model says what the chapter says, one bit at a time and apart for each order.

func bitsOfByte(x byte, high bool) []int {
	var l []int
	for i := range 8 {
		if high {
			l = append(l, int(x>>(7-i))&1)
		} else {
			l = append(l, int(x>>i)&1)
		}
	}
	return l
}

func bitsOfBytes(b []byte, high bool) []int {
	var l []int
	for _, x := range b {
		l = append(l, bitsOfByte(x, high)...)
	}
	return l
}

func bitsOfNumber(x, n int, high bool) []int {
	var l []int
	for i := range n {
		if high {
			l = append(l, x>>(n-1-i)&1)
		} else {
			l = append(l, x>>i&1)
		}
	}
	return l
}

func numberOfBits(l []int, high bool) int {
	x := 0
	for i, bit := range l {
		if high {
			x = 2*x + bit
		} else {
			x += bit << i
		}
	}
	return x
}

// padded is l with zero bits up to the end of a byte.
func padded(l []int) []int {
	l = append([]int(nil), l...)
	for len(l)%8 > 0 {
		l = append(l, 0)
	}
	return l
}

func bytesOfBits(l []int, high bool) []byte {
	var b []byte
	for l = padded(l); len(l) > 0; l = l[8:] {
		b = append(b, byte(numberOfBits(l[:8], high)))
	}
	return b
}

func randomBytes(g *rand.Rand, n int) []byte {
	b := make([]byte, n)
	for i := range b {
		b[i] = byte(g.Uint32())
	}
	return b
}

// randomNumber is one of n bits, often at the edge of what n bits hold.
func randomNumber(g *rand.Rand, n int) int {
	switch g.IntN(4) {
	case 0:
		return 1<<n - 1
	case 1:
		return 0
	}
	return int(g.Uint64N(1 << n))
}

// TestReaderLikeModel: P1.1, for all calls in any order.
func TestReaderLikeModel(t *testing.T) {
	g := rand.New(rand.NewPCG(1, 1))
	for round := range 4000 {
		high := round%2 == 0
		b := randomBytes(g, g.IntN(24))
		rest := bitsOfBytes(b, high)
		align := func() { rest = rest[len(rest)%8:] }
		r := bits.NewReader(b, high)
		for range 12 {
			n := g.IntN(37) - 2
			fits := n >= 0 && n <= 32
			switch g.IntN(4) {
			case 0:
				if fits && n <= len(rest) {
					wantTake(t, r, n, numberOfBits(rest[:n], high), true)
					rest = rest[n:]
				} else {
					wantTake(t, r, n, 0, false)
				}
			case 1:
				if !fits {
					wantPeek(t, r, n, 0, 0)
					break
				}
				next := make([]int, n)
				left := copy(next, rest)
				wantPeek(t, r, n, numberOfBits(next, high), left)
			case 2:
				r.Align()
				align()
			case 3:
				n %= 5
				align()
				if n >= 0 && 8*n <= len(rest) {
					wantBytes(t, r, n, bytesOfBits(rest[:8*n], high), true)
					rest = rest[8*n:]
				} else {
					wantBytes(t, r, n, nil, false)
				}
			}
			wantLeft(t, r, len(rest))
		}
		if t.Failed() {
			t.Fatalf("round %d: bytes %X, high %v", round, b, high)
		}
	}
}

// TestWriterLikeModel: P1.2, for all calls in any order.
func TestWriterLikeModel(t *testing.T) {
	g := rand.New(rand.NewPCG(2, 1))
	for round := range 4000 {
		high := round%2 == 0
		var all []int
		w := bits.NewWriter(high)
		for range 12 {
			switch g.IntN(5) {
			case 0, 1:
				n := g.IntN(33)
				x := randomNumber(g, n)
				wantPut(t, w, x, n, true)
				all = append(all, bitsOfNumber(x, n, high)...)
			case 2:
				n := g.IntN(33)
				wantPut(t, w, 1<<n+randomNumber(g, n), n, false)
			case 3:
				w.Align()
				all = padded(all)
			case 4:
				b := randomBytes(g, g.IntN(4))
				w.Add(b)
				all = append(padded(all), bitsOfBytes(b, high)...)
			}
			wantWritten(t, w, bytesOfBits(all, high), len(all))
		}
		if t.Failed() {
			t.Fatalf("round %d: high %v", round, high)
		}
	}
}

// TestBackAtEveryPlace: P1.3, for each width behind each number of bits.
func TestBackAtEveryPlace(t *testing.T) {
	for _, high := range bothOrders {
		for skip := range 33 {
			for n := range 33 {
				for _, x := range []int{0, (1<<n - 1) & 0xa5c3965a, 1<<n - 1, 1 << n >> 1} {
					w := bits.NewWriter(high)
					wantPut(t, w, 0, skip, true)
					wantPut(t, w, x, n, true)
					wantPut(t, w, 5, 3, true)
					r := bits.NewReader(w.Bytes(), high)
					wantTake(t, r, skip, 0, true)
					wantPeek(t, r, n, x, n)
					wantTake(t, r, n, x, true)
					wantTake(t, r, 3, 5, true)
				}
			}
		}
	}
}

// TestBackMixed: P1.3, where numbers and whole bytes take turns.
func TestBackMixed(t *testing.T) {
	g := rand.New(rand.NewPCG(3, 1))
	for round := range 1000 {
		high := round%2 == 0
		w := bits.NewWriter(high)
		type item struct {
			x, n int
			b    []byte
		}
		var items []item
		for range 20 {
			it := item{n: g.IntN(33)}
			it.x = randomNumber(g, it.n)
			wantPut(t, w, it.x, it.n, true)
			if g.IntN(4) == 0 {
				it.b = randomBytes(g, 1+g.IntN(3))
				w.Add(it.b)
			}
			items = append(items, it)
		}
		r := bits.NewReader(w.Bytes(), high)
		for _, it := range items {
			wantTake(t, r, it.n, it.x, true)
			if it.b != nil {
				wantBytes(t, r, len(it.b), it.b, true)
			}
		}
		if r.Left() >= 8 {
			t.Errorf("Left() = %d at the end", r.Left())
		}
		if t.Failed() {
			t.Fatalf("round %d: high %v", round, high)
		}
	}
}

// TestSameAgain: R5, the same calls answer the same.
func TestSameAgain(t *testing.T) {
	run := func() []byte {
		g := rand.New(rand.NewPCG(4, 1))
		w := bits.NewWriter(false)
		for range 1000 {
			n := g.IntN(33)
			w.Put(randomNumber(g, n), n)
		}
		return w.Bytes()
	}
	if !bytes.Equal(run(), run()) {
		t.Error("the same numbers gave other bytes")
	}
}
