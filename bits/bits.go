// Package bits reads and writes numbers that consist of some bits, in either bit order.
package bits

const (
	byteBits = 8
	maxBits  = 32 // of one number
)

// place tells how far above the lowest bit of a field a piece of it lies: the
// piece has n bits, and before bits of the field's width come ahead of it.
// A byte and a number are both such fields, and the same order holds in both:
// so one place is all in which the two bit orders differ.
type place func(width, before, n int) int

// order has a place for each bit order.
type order struct{}

func (order) highFirst(width, before, n int) int { return width - before - n }

func (order) lowFirst(width, before, n int) int { return before }

func placeOf(high bool) place {
	var o order
	if high {
		return o.highFirst
	}
	return o.lowFirst
}

// low is the lowest n bits of x.
func low(x, n int) int { return x & (1<<n - 1) }

func isWidth(n int) bool { return n >= 0 && n <= maxBits }
