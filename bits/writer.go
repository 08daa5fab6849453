package bits

import "slices"

// Writer collects numbers into bytes. One that NewWriter did not make has no
// place, takes nothing in, and its methods answer zero values.
type Writer struct {
	b     []byte
	free  int // bits of the last byte that have not been written; they are 0
	place place
}

// NewWriter makes an empty writer, with the most significant bit of a byte first if high is true.
func NewWriter(high bool) *Writer {
	return &Writer{place: placeOf(high)}
}

func (w *Writer) made() bool { return w != nil && w.place != nil }

// Put appends the n bits of x, or nothing, with false, if x does not fit in n bits.
func (w *Writer) Put(x, n int) bool {
	if !w.made() || !isWidth(n) || x < 0 || x>>n != 0 {
		return false
	}
	for done := 0; done < n; {
		if w.free == 0 {
			w.b = append(w.b, 0)
			w.free = byteBits
		}
		k := min(n-done, w.free)
		piece := low(x>>w.place(n, done, k), k)
		w.b[len(w.b)-1] |= byte(piece << w.place(byteBits, byteBits-w.free, k))
		w.free -= k
		done += k
	}
	return true
}

// Align fills a byte that has been begun with zero bits.
func (w *Writer) Align() {
	if w.made() {
		w.free = 0
	}
}

// Add aligns, also for no bytes, and appends b.
func (w *Writer) Add(b []byte) {
	if !w.made() {
		return
	}
	w.Align()
	w.b = append(w.b, b...)
}

// Len is the number of bits that have been written.
func (w *Writer) Len() int {
	if !w.made() {
		return 0
	}
	return len(w.b)*byteBits - w.free
}

// Bytes is all that has been written; the writer is not aligned by it.
func (w *Writer) Bytes() []byte {
	if !w.made() {
		return nil
	}
	return slices.Clone(w.b)
}
