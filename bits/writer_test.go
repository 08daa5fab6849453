package bits_test

import (
	"bytes"
	"math"
	"testing"

	"fairlead/bits"
)

func wantPut(t *testing.T, w *bits.Writer, x, n int, ok bool) {
	t.Helper()
	if got := w.Put(x, n); got != ok {
		t.Errorf("Put(%d, %d) = %v, want %v", x, n, got, ok)
	}
}

func wantWritten(t *testing.T, w *bits.Writer, b []byte, bits int) {
	t.Helper()
	if got := w.Bytes(); !bytes.Equal(got, b) {
		t.Errorf("Bytes() = %X, want %X", got, b)
	}
	if got := w.Len(); got != bits {
		t.Errorf("Len() = %d, want %d", got, bits)
	}
}

// P1.2: the chapter's examples.
func TestWriterExamples(t *testing.T) {
	for _, c := range []struct {
		high bool
		want byte
	}{{true, 0xa8}, {false, 0x0d}} {
		w := bits.NewWriter(c.high)
		wantWritten(t, w, nil, 0)
		wantPut(t, w, 5, 3, true)
		wantPut(t, w, 1, 2, true)
		wantWritten(t, w, []byte{c.want}, 5)
	}
}

// P1.2: Put in both orders, over the ends of bytes.
func TestPutOrders(t *testing.T) {
	w := bits.NewWriter(true)
	wantPut(t, w, 0x1, 4, true)
	wantPut(t, w, 0x23, 8, true)
	wantPut(t, w, 0x456789ab, 32, true)
	wantPut(t, w, 0xc, 4, true)
	wantWritten(t, w, []byte{0x12, 0x34, 0x56, 0x78, 0x9a, 0xbc}, 48)
	w = bits.NewWriter(false)
	wantPut(t, w, 0x2, 4, true)
	wantPut(t, w, 0x41, 8, true)
	wantPut(t, w, 0xc9a78563, 32, true)
	wantPut(t, w, 0xb, 4, true)
	wantWritten(t, w, []byte{0x12, 0x34, 0x56, 0x78, 0x9a, 0xbc}, 48)
}

// P1.2: for each width the greatest number goes in and the one after it does not.
func TestPutBounds(t *testing.T) {
	for _, high := range bothOrders {
		for n := range 33 {
			w := bits.NewWriter(high)
			wantPut(t, w, 1<<n-1, n, true)
			wantPut(t, w, 0, n, true)
			before := w.Bytes()
			for _, x := range []int{1 << n, 1<<n + 1, 1 << 33, math.MaxInt, -1, math.MinInt, -1 << n, math.MinInt32} {
				wantPut(t, w, x, n, false)
				wantWritten(t, w, before, 2*n)
			}
		}
	}
}

// P1.2: a wrong width appends nothing, also not of a number that would fit.
func TestPutWrongWidth(t *testing.T) {
	for _, high := range bothOrders {
		w := bits.NewWriter(high)
		for _, n := range wrongWidths {
			for _, x := range []int{0, 1, -1, math.MaxInt} {
				wantPut(t, w, x, n, false)
				wantWritten(t, w, nil, 0)
				if t.Failed() {
					return // a writer that takes 33 bits might try to take MaxInt of them
				}
			}
		}
		wantPut(t, w, 0xff, 8, true)
		wantPut(t, w, 1, 33, false)
		wantWritten(t, w, []byte{0xff}, 8)
	}
}

// P1.2: no bits are a number too, and append nothing.
func TestPutNoBits(t *testing.T) {
	for _, high := range bothOrders {
		w := bits.NewWriter(high)
		wantPut(t, w, 0, 0, true)
		wantPut(t, w, 1, 0, false)
		wantWritten(t, w, nil, 0)
		w.Align()
		wantWritten(t, w, nil, 0)
		wantPut(t, w, 1, 1, true)
		wantPut(t, w, 0, 0, true)
		wantPut(t, w, 1, 0, false)
		if got := w.Len(); got != 1 {
			t.Errorf("Len() = %d, want 1", got)
		}
	}
}

// P1.2: Align fills a byte that is begun with zero bits, and does nothing at its end.
func TestWriterAlign(t *testing.T) {
	for _, high := range bothOrders {
		for n := range 25 {
			w := bits.NewWriter(high)
			wantPut(t, w, 1<<n-1, n, true)
			filled := w.Bytes()
			for range 3 {
				w.Align()
				wantWritten(t, w, filled, (n+7)/8*8)
			}
			wantPut(t, w, 0xff, 8, true)
			wantWritten(t, w, append(filled, 0xff), (n+7)/8*8+8)
		}
	}
}

// P1.2: Add appends whole bytes behind the end of a byte that is begun.
func TestAdd(t *testing.T) {
	w := bits.NewWriter(true)
	w.Add([]byte{1, 2})
	wantWritten(t, w, []byte{1, 2}, 16)
	wantPut(t, w, 1, 1, true)
	w.Add([]byte{3})
	wantPut(t, w, 1, 2, true)
	wantWritten(t, w, []byte{1, 2, 0x80, 3, 0x40}, 34)
	w = bits.NewWriter(false)
	wantPut(t, w, 1, 1, true)
	w.Add([]byte{3, 4})
	wantPut(t, w, 2, 2, true)
	wantWritten(t, w, []byte{1, 3, 4, 2}, 26)
}

// P1.2: Add of no bytes aligns all the same.
func TestAddNothing(t *testing.T) {
	for _, none := range [][]byte{nil, {}} {
		w := bits.NewWriter(false)
		w.Add(none)
		wantWritten(t, w, nil, 0)
		wantPut(t, w, 1, 1, true)
		w.Add(none)
		wantWritten(t, w, []byte{1}, 8)
		w.Add(none)
		wantPut(t, w, 1, 1, true)
		wantWritten(t, w, []byte{1, 1}, 9)
	}
}

// P1.2: Bytes and Len only look.
func TestWriterLooks(t *testing.T) {
	for _, high := range bothOrders {
		w := bits.NewWriter(high)
		for i := range 20 {
			w.Bytes()
			if got := w.Len(); got != i {
				t.Fatalf("Len() = %d, want %d", got, i)
			}
			wantPut(t, w, 1, 1, true)
		}
		last := byte(0xf0)
		if !high {
			last = 0x0f
		}
		wantWritten(t, w, []byte{0xff, 0xff, last}, 20)
	}
}

// P1.2 with R4: a writer keeps no list that it was given and hands out none that it keeps.
func TestWriterSharesNothing(t *testing.T) {
	w := bits.NewWriter(true)
	whole := []byte{1, 2, 3, 4}
	w.Add(whole[:2])
	wantPut(t, w, 0xff, 8, true)
	if !bytes.Equal(whole, []byte{1, 2, 3, 4}) {
		t.Errorf("the argument was changed: %v", whole)
	}
	whole[0] = 9
	first := w.Bytes()
	if !bytes.Equal(first, []byte{1, 2, 255}) {
		t.Errorf("a change of the argument is seen: %v", first)
	}
	all := first[:cap(first)]
	for i := range all {
		all[i] = 7
	}
	wantWritten(t, w, []byte{1, 2, 255}, 24)
	second := w.Bytes()
	wantPut(t, w, 1, 1, true)
	third := append(second, 5)
	wantWritten(t, w, []byte{1, 2, 255, 0x80}, 25)
	if !bytes.Equal(third, []byte{1, 2, 255, 5}) {
		t.Errorf("a later Put is seen in a result: %v", third)
	}
}

// P1.2 with R4: a result stays as it is when bits are put into its last byte.
func TestWriterResultStays(t *testing.T) {
	w := bits.NewWriter(true)
	wantPut(t, w, 1, 1, true)
	early := w.Bytes()
	wantPut(t, w, 0x7f, 7, true)
	if !bytes.Equal(early, []byte{0x80}) {
		t.Errorf("a later Put is seen in a result: %X", early)
	}
}

// P1.2 with R5: writers do not touch one another, whatever their orders are.
func TestWritersApart(t *testing.T) {
	high, low := bits.NewWriter(true), bits.NewWriter(false)
	wantPut(t, high, 1, 3, true)
	wantPut(t, low, 1, 3, true)
	wantPut(t, high, 0x55, 7, true)
	wantPut(t, low, 0x55, 7, true)
	wantWritten(t, high, []byte{0x35, 0x40}, 10)
	wantWritten(t, low, []byte{0xa9, 0x02}, 10)
}

// P1.2 with R7: a writer that NewWriter did not make.
func TestWriterNotMade(t *testing.T) {
	for _, w := range []*bits.Writer{nil, {}, new(bits.Writer)} {
		w.Align()
		w.Add([]byte{1})
		w.Add(nil)
		for _, n := range []int{0, 1, 32, 33, -1} {
			wantPut(t, w, 0, n, false)
		}
		wantWritten(t, w, nil, 0)
	}
}
