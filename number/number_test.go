package number_test

import (
	"bytes"
	"encoding/binary"
	"math"
	"testing"

	"fairlead/number"
)

func TestNumber(t *testing.T) {
	for _, c := range []struct {
		n int
		b []byte
	}{
		{0, nil}, {0, []byte{0}}, {7, []byte{7}}, {255, []byte{255}}, {0, []byte{0, 0}}, {0x5dc, []byte{5, 0xdc}},
		{0xfffe, []byte{255, 254}}, {0xc22381, []byte{0xc2, 0x23, 0x81}}, {1, []byte{0, 0, 0, 1}},
		{0x80000000, []byte{0x80, 0, 0, 0}}, {math.MaxUint32, []byte{255, 255, 255, 255}},
	} {
		if n := number.Of(c.b); n != c.n {
			t.Errorf("Of(%X): %X, want %X", c.b, n, c.n)
		}
		if b := number.Bytes(c.n, len(c.b)); !bytes.Equal(b, c.b) {
			t.Errorf("Bytes(%X, %d): %X, want %X", c.n, len(c.b), b, c.b)
		}
	}
}

// Each number of two bytes, there and back, as the library has it.
func TestNumbersOfTwoBytes(t *testing.T) {
	for n := range 1 << 16 {
		want := binary.BigEndian.AppendUint16(nil, uint16(n))
		if b := number.Bytes(n, 2); !bytes.Equal(b, want) {
			t.Errorf("Bytes(%X, 2): %X, want %X", n, b, want)
		}
		if got := number.Of(want); got != n {
			t.Errorf("Of(%X): %X, want %X", want, got, n)
		}
	}
}

// A number that is too great, or below 0, leaves its end in the bytes; where
// there are none, nothing is left.
func TestNumbersThatDoNotFit(t *testing.T) {
	for _, c := range []struct {
		n, size int
		want    []byte
	}{
		{0x12345, 2, []byte{0x23, 0x45}}, {1 << 16, 2, []byte{0, 0}}, {256, 1, []byte{0}}, {-1, 2, []byte{255, 255}}, {-2, 1, []byte{254}},
		{math.MinInt, 3, []byte{0, 0, 0}}, {math.MaxInt, 4, []byte{255, 255, 255, 255}}, {77, 0, nil}, {77, -1, nil}, {77, math.MinInt, nil},
	} {
		if b := number.Bytes(c.n, c.size); !bytes.Equal(b, c.want) {
			t.Errorf("Bytes(%X, %d): %X, want %X", c.n, c.size, b, c.want)
		}
	}
}
