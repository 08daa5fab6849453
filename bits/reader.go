package bits

import "slices"

// Reader reads numbers from a list of bytes. One that NewReader did not make
// has no place, and its methods answer zero values.
type Reader struct {
	b     []byte
	at    int // bits that have been read
	place place
}

// NewReader makes a reader of b, with the most significant bit of a byte first if high is true.
func NewReader(b []byte, high bool) *Reader {
	return &Reader{b: slices.Clone(b), place: placeOf(high)}
}

func (r *Reader) made() bool { return r != nil && r.place != nil }

// Take reads the next n bits as a number, or nothing, with false, if it can't.
func (r *Reader) Take(n int) (int, bool) {
	if !r.made() || !isWidth(n) || n > r.Left() {
		return 0, false
	}
	x, _ := r.Peek(n)
	r.at += n
	return x, true
}

// Peek is the number that the next n bits would form, and how many of them are left.
func (r *Reader) Peek(n int) (int, int) {
	if !r.made() || !isWidth(n) {
		return 0, 0
	}
	x, left := 0, min(n, r.Left())
	for done := 0; done < left; {
		at := r.at + done
		used := at % byteBits
		k := min(left-done, byteBits-used)
		piece := low(int(r.b[at/byteBits])>>r.place(byteBits, used, k), k)
		x |= piece << r.place(n, done, k)
		done += k
	}
	return x, left
}

// Align skips what is left of a byte that has been begun.
func (r *Reader) Align() {
	if !r.made() {
		return
	}
	if used := r.at % byteBits; used > 0 {
		r.at += byteBits - used
	}
}

// Bytes aligns, whatever it answers, and reads the next n bytes.
func (r *Reader) Bytes(n int) ([]byte, bool) {
	if !r.made() {
		return nil, false
	}
	r.Align()
	if n < 0 || n > r.Left()/byteBits {
		return nil, false
	}
	start := r.at / byteBits
	r.at += n * byteBits
	return slices.Clone(r.b[start : start+n]), true
}

// Left is the number of bits that are left.
func (r *Reader) Left() int {
	if !r.made() {
		return 0
	}
	return len(r.b)*byteBits - r.at
}
