// Package block divides the input of a digest into blocks, with the padding
// behind it: what md4 and sha have in common.
package block

import (
	"slices"
)

// Count is how many words a block has.
const Count = size / wordSize

const (
	size      = 64
	wordSize  = 4
	countSize = 8   // bytes of the number of bits that a padding ends with
	mark      = 128 // the byte that a padding begins with
)

// Words are those of a block.
type Words [Count]uint32

// Fold is what start turns into by after, which is called with each block of b
// and of the padding behind it, in order. With high, numbers have their most
// significant byte first, otherwise their least significant one.
func Fold[S any](start S, b []byte, high bool, after func(S, Words) S) S {
	whole := len(b) - len(b)%size
	end := padded(b[whole:], len(b), high)
	s := start
	for _, part := range [][]byte{b[:whole], end} {
		for block := range slices.Chunk(part, size) {
			s = after(s, wordsOf(block, high))
		}
	}
	return s
}

// padded is the end of an input of length bytes, those that fill no block, with the padding.
func padded(end []byte, length int, high bool) []byte {
	p := append(slices.Clone(end), mark)
	for len(p)%size != size-countSize {
		p = append(p, 0)
	}
	return append(p, split(8*uint64(length), countSize, high)...)
}

func wordsOf(block []byte, high bool) Words {
	var x Words
	for i := range x {
		x[i] = join(block[wordSize*i:wordSize*(i+1)], high)
	}
	return x
}

// Bytes are those of the words, in order, each word with its most significant byte
// first if high, otherwise with its least significant one.
func Bytes(words []uint32, high bool) []byte {
	var b []byte
	for _, w := range words {
		b = append(b, split(uint64(w), wordSize, high)...)
	}
	return b
}

// split is the n bytes of a number.
func split(v uint64, n int, high bool) []byte {
	l := make([]byte, n)
	for i := range l {
		l[i] = byte(v >> shift(i, n, high))
	}
	return l
}

// join is the word whose bytes these are.
func join(b []byte, high bool) uint32 {
	var w uint32
	for i, x := range b {
		w |= uint32(x) << shift(i, len(b), high)
	}
	return w
}

// shift is how many bits of a number stand below the byte that comes at i of n.
func shift(i, n int, high bool) int {
	if high {
		return 8 * (n - 1 - i)
	}
	return 8 * i
}
