package bits_test

import (
	"bytes"
	"math"
	"testing"

	"fairlead/bits"
)

// wrongWidths are no widths of a number.
var wrongWidths = []int{-1, 33, -32, 34, 64, math.MinInt, math.MaxInt, math.MinInt32, math.MaxInt32}

var bothOrders = []bool{true, false}

func wantTake(t *testing.T, r *bits.Reader, n, x int, ok bool) {
	t.Helper()
	if gotX, gotOk := r.Take(n); gotX != x || gotOk != ok {
		t.Errorf("Take(%d) = %d, %v, want %d, %v", n, gotX, gotOk, x, ok)
	}
}

func wantPeek(t *testing.T, r *bits.Reader, n, x, left int) {
	t.Helper()
	if gotX, gotLeft := r.Peek(n); gotX != x || gotLeft != left {
		t.Errorf("Peek(%d) = %d, %d, want %d, %d", n, gotX, gotLeft, x, left)
	}
}

func wantBytes(t *testing.T, r *bits.Reader, n int, b []byte, ok bool) {
	t.Helper()
	gotB, gotOk := r.Bytes(n)
	if !bytes.Equal(gotB, b) || gotOk != ok {
		t.Errorf("Bytes(%d) = %X, %v, want %X, %v", n, gotB, gotOk, b, ok)
	}
}

func wantLeft(t *testing.T, r *bits.Reader, left int) {
	t.Helper()
	if got := r.Left(); got != left {
		t.Errorf("Left() = %d, want %d", got, left)
	}
}

// P1.1: the chapter's example.
func TestReaderExample(t *testing.T) {
	r := bits.NewReader([]byte{0xa8}, true)
	wantTake(t, r, 3, 5, true)
	wantTake(t, r, 2, 1, true)
	wantTake(t, r, 9, 0, false)
	wantLeft(t, r, 3)
}

// P1.1: Take in both orders, over the ends of bytes.
func TestTakeOrders(t *testing.T) {
	b := []byte{0x12, 0x34, 0x56, 0x78, 0x9a, 0xbc}
	r := bits.NewReader(b, true)
	wantTake(t, r, 4, 0x1, true)
	wantTake(t, r, 8, 0x23, true)
	wantTake(t, r, 32, 0x456789ab, true)
	wantTake(t, r, 4, 0xc, true)
	r = bits.NewReader(b, false)
	wantTake(t, r, 4, 0x2, true)
	wantTake(t, r, 8, 0x41, true)
	wantTake(t, r, 32, 0xc9a78563, true)
	wantTake(t, r, 4, 0xb, true)
	wantLeft(t, r, 0)
}

// P1.1: single bits, of which each byte gives the first one first.
func TestTakeSingleBits(t *testing.T) {
	for _, high := range bothOrders {
		r := bits.NewReader([]byte{0x01, 0x80}, high)
		for i := range 16 {
			want := 0
			if high && (i == 7 || i == 8) || !high && (i == 0 || i == 15) {
				want = 1
			}
			wantTake(t, r, 1, want, true)
			wantLeft(t, r, 15-i)
		}
		wantTake(t, r, 1, 0, false)
	}
}

// P1.1: the greatest width, and the greatest number.
func TestTakeWidest(t *testing.T) {
	for _, high := range bothOrders {
		r := bits.NewReader([]byte{0xff, 0xff, 0xff, 0xff, 0xff}, high)
		wantTake(t, r, 7, 0x7f, true)
		wantTake(t, r, 32, math.MaxUint32, true)
		wantTake(t, r, 1, 1, true)
		wantLeft(t, r, 0)
	}
}

// P1.1: no bits can be taken anywhere, also at the end and of nothing.
func TestTakeNoBits(t *testing.T) {
	for _, high := range bothOrders {
		r := bits.NewReader([]byte{0xff}, high)
		wantTake(t, r, 0, 0, true)
		wantLeft(t, r, 8)
		wantTake(t, r, 8, 255, true)
		wantTake(t, r, 0, 0, true)
		wantTake(t, bits.NewReader(nil, high), 0, 0, true)
		wantTake(t, bits.NewReader([]byte{}, high), 0, 0, true)
	}
}

// P1.1: a wrong width reads nothing, however much is left.
func TestTakeWrongWidth(t *testing.T) {
	for _, high := range bothOrders {
		r := bits.NewReader(bytes.Repeat([]byte{0xff}, 20), high)
		wantTake(t, r, 3, 7, true)
		for _, n := range wrongWidths {
			wantTake(t, r, n, 0, false)
			wantLeft(t, r, 157)
		}
		wantTake(t, r, 32, math.MaxUint32, true)
	}
}

// P1.1: what is too short is not read in part.
func TestTakeTooShort(t *testing.T) {
	for _, high := range bothOrders {
		r := bits.NewReader([]byte{0xff, 0xff}, high)
		for n := 17; n <= 32; n++ {
			wantTake(t, r, n, 0, false)
			wantLeft(t, r, 16)
		}
		wantTake(t, r, 5, 31, true)
		wantTake(t, r, 12, 0, false)
		wantLeft(t, r, 11)
		wantTake(t, r, 11, 2047, true)
		wantTake(t, r, 1, 0, false)
		wantLeft(t, r, 0)
	}
	wantTake(t, bits.NewReader(nil, true), 1, 0, false)
}

// P1.1: Peek reads nothing and counts what is not left as zero bits.
func TestPeek(t *testing.T) {
	r := bits.NewReader([]byte{0xa8, 0x7f}, true)
	wantPeek(t, r, 3, 5, 3)
	wantPeek(t, r, 3, 5, 3)
	wantPeek(t, r, 16, 0xa87f, 16)
	wantPeek(t, r, 17, 0xa87f<<1, 16)
	wantPeek(t, r, 32, 0xa87f0000, 16)
	wantLeft(t, r, 16)
	wantTake(t, r, 13, 0x150f, true)
	wantPeek(t, r, 3, 7, 3)
	wantPeek(t, r, 4, 14, 3)
	wantPeek(t, r, 32, 0xe0000000, 3)
	wantLeft(t, r, 3)

	r = bits.NewReader([]byte{0xa8, 0x7f}, false)
	wantPeek(t, r, 4, 8, 4)
	wantPeek(t, r, 12, 0xfa8, 12)
	wantPeek(t, r, 32, 0x7fa8, 16)
	wantTake(t, r, 13, 0x1fa8, true)
	wantPeek(t, r, 3, 3, 3)
	wantPeek(t, r, 32, 3, 3)
	wantLeft(t, r, 3)
}

// P1.1: Peek of no bits, of wrong widths and at the end.
func TestPeekEdges(t *testing.T) {
	for _, high := range bothOrders {
		r := bits.NewReader(bytes.Repeat([]byte{0xff}, 9), high)
		wantPeek(t, r, 0, 0, 0)
		for _, n := range wrongWidths {
			wantPeek(t, r, n, 0, 0)
		}
		wantLeft(t, r, 72)
		wantPeek(t, r, 32, math.MaxUint32, 32)
		wantBytes(t, r, 9, bytes.Repeat([]byte{0xff}, 9), true)
		for n := range 33 {
			wantPeek(t, r, n, 0, 0)
			wantPeek(t, bits.NewReader(nil, high), n, 0, 0)
		}
	}
}

// P1.1: Align goes to the end of a byte that is begun, and of no other.
func TestReaderAlign(t *testing.T) {
	for _, high := range bothOrders {
		for used := range 25 {
			r := bits.NewReader([]byte{1, 2, 3}, high)
			r.Take(used)
			whole := (24 - used) / 8
			for range 3 {
				r.Align()
				wantLeft(t, r, whole*8)
			}
			if whole > 0 {
				wantTake(t, r, 8, 4-whole, true)
			}
		}
	}
	r := bits.NewReader(nil, true)
	r.Align()
	wantLeft(t, r, 0)
}

// P1.1: neither a peek nor what failed begins a byte.
func TestReaderAlignAfterNothing(t *testing.T) {
	r := bits.NewReader([]byte{1, 2}, true)
	r.Peek(3)
	r.Take(0)
	r.Take(17)
	r.Take(-1)
	r.Align()
	wantLeft(t, r, 16)
}

// P1.1: Bytes skips the rest of a byte and reads whole ones.
func TestReaderBytes(t *testing.T) {
	for _, high := range bothOrders {
		r := bits.NewReader([]byte{1, 2, 3, 4, 5}, high)
		wantBytes(t, r, 1, []byte{1}, true)
		r.Take(1)
		wantBytes(t, r, 2, []byte{3, 4}, true)
		wantLeft(t, r, 8)
		wantBytes(t, r, 1, []byte{5}, true)
		wantBytes(t, r, 0, nil, true)
		wantBytes(t, r, 1, nil, false)
		wantBytes(t, bits.NewReader(nil, high), 0, nil, true)
		wantBytes(t, bits.NewReader(nil, high), 1, nil, false)
	}
}

// P1.1: Bytes aligns whether it reads or not.
func TestReaderBytesAligns(t *testing.T) {
	cases := []struct {
		n  int
		ok bool
	}{{0, true}, {-1, false}, {3, false}, {math.MinInt, false}, {math.MaxInt, false}, {math.MaxInt/8 + 1, false}}
	for _, c := range cases {
		r := bits.NewReader([]byte{1, 2, 3}, true)
		r.Take(1)
		wantBytes(t, r, c.n, nil, c.ok)
		wantLeft(t, r, 16)
		wantBytes(t, r, c.n, nil, c.ok)
		wantLeft(t, r, 16)
		wantBytes(t, r, 2, []byte{2, 3}, true)
	}
}

// P1.1 with R4: a reader keeps no list that it was given and hands out none that it keeps.
func TestReaderSharesNothing(t *testing.T) {
	whole := []byte{1, 2, 3, 4, 5, 6}
	r := bits.NewReader(whole[:4], true)
	wantLeft(t, r, 32)
	whole[0], whole[1] = 9, 9
	first, _ := r.Bytes(2)
	if !bytes.Equal(first, []byte{1, 2}) {
		t.Errorf("a change of the argument is seen: %v", first)
	}
	for i := range first[:cap(first)] {
		first[:cap(first)][i] = 7
	}
	second, _ := r.Bytes(2)
	if !bytes.Equal(second, []byte{3, 4}) {
		t.Errorf("a change of a result is seen: %v", second)
	}
	second[0] = 7
	if !bytes.Equal(whole, []byte{9, 9, 3, 4, 5, 6}) {
		t.Errorf("the argument was changed: %v", whole)
	}
}

// P1.1 with R5: readers do not touch one another, whatever their orders are.
func TestReadersApart(t *testing.T) {
	b := []byte{0x12, 0x34}
	high, low := bits.NewReader(b, true), bits.NewReader(b, false)
	wantTake(t, high, 4, 1, true)
	wantTake(t, low, 4, 2, true)
	wantTake(t, high, 8, 0x23, true)
	wantTake(t, low, 8, 0x41, true)
	wantLeft(t, bits.NewReader(b, true), 16)
}

// P1.1 with R7: a reader that NewReader did not make.
func TestReaderNotMade(t *testing.T) {
	for _, r := range []*bits.Reader{nil, {}, new(bits.Reader)} {
		r.Align()
		for _, n := range []int{0, 1, 32, 33, -1} {
			wantTake(t, r, n, 0, false)
			wantPeek(t, r, n, 0, 0)
			wantBytes(t, r, n, nil, false)
		}
		wantLeft(t, r, 0)
	}
}
