package block_test

import (
	"bytes"
	"encoding/binary"
	"fmt"
	"testing"

	"fairlead/block"
)

type byteOrder interface {
	binary.ByteOrder
	binary.AppendByteOrder
}

// order is how the bytes of a number follow each other, with the library's way of it.
type order struct {
	high bool
	byteOrder
}

func orders() []order {
	return []order{{false, binary.LittleEndian}, {true, binary.BigEndian}}
}

// pattern is n bytes, each other than the one ahead of it, alike after 256.
func pattern(n int) []byte {
	b := make([]byte, n)
	for i := range b {
		b[i] = byte(7*i + 3)
	}
	return b
}

// folded is all blocks that Fold calls for, in order.
func folded(b []byte, high bool) []block.Words {
	return block.Fold(nil, b, high, func(l []block.Words, x block.Words) []block.Words { return append(l, x) })
}

// P6.1 and P7.1: the words of the blocks are those of the input and the
// padding: the byte 128, zero bytes up to 56 modulo 64, the number of bits.
func TestFoldOfEachLength(t *testing.T) {
	for _, o := range orders() {
		for n := range 64*4 + 2 {
			want := append(pattern(n), 0x80)
			want = append(want, make([]byte, (64*5-n-9)%64)...)
			want = o.AppendUint64(want, 8*uint64(n))
			got := folded(pattern(n), o.high)
			if 64*len(got) != len(want) {
				t.Fatalf("%v, %d bytes: %d blocks, want %d bytes", o, n, len(got), len(want))
			}
			for i, x := range got {
				for k, w := range x {
					if v := o.Uint32(want[64*i+4*k:]); w != v {
						t.Errorf("%v, %d bytes: block %d, word %d: %08X, want %08X", o, n, i, k, w, v)
					}
				}
			}
		}
	}
}

// Each block is handed to the function with what the one ahead of it answered.
func TestFoldPassesOn(t *testing.T) {
	got := block.Fold("start", make([]byte, 130), true, func(s string, x block.Words) string {
		return fmt.Sprintf("%s %X", s, x[0]+x[15])
	})
	if want := "start 0 0 8410"; got != want { // the mark behind two bytes, and 1040 bits
		t.Errorf("%q, want %q", got, want)
	}
}

// R4: the bytes stay, up to their capacity.
func TestFoldLeavesTheArgument(t *testing.T) {
	memory := pattern(400)
	for n := range 260 {
		folded(memory[3:3+n], true)
		if !bytes.Equal(memory, pattern(400)) {
			t.Fatalf("%d bytes: the argument changed", n)
		}
	}
}

// P6.1 and P7.1: the words of a state in either order of their bytes.
func TestBytes(t *testing.T) {
	l := []uint32{0, 1, 0x01020304, 0xfffefdfc, 0x80000000}
	for _, o := range orders() {
		for n := range len(l) + 1 {
			var want []byte
			for _, w := range l[:n] {
				want = o.AppendUint32(want, w)
			}
			if got := block.Bytes(l[:n], o.high); !bytes.Equal(got, want) {
				t.Errorf("%v, %d words: %X, want %X", o, n, got, want)
			}
		}
	}
}
