package frame_test

import (
	"bytes"
	"fmt"
	"math"
	"math/rand/v2"
	"testing"

	"fairlead/api"
	"fairlead/frame"
)

const (
	longest = 1516 // bytes of info
	tooLong = longest + 1
)

// forms are all there are, in the order of the columns of the tests' tables.
var forms = []api.Form{{}, {Acfc: true}, {Pfc: true}, {Acfc: true, Pfc: true}}

var (
	none = forms[0]
	both = forms[3]
)

// strange are numbers that are no valid protocols.
var strange = []int{
	-1, -255, -65535, 0, 2, 254, 255, 256, 257, 0x1ff, 0xff01, 0xff03, 0xfffe, 0xffff, 0x10000, 0x10001, 0x10021, 0x1c021,
	1<<32 + 0x21, -1<<32 + 0x21, 1<<63 - 1, math.MinInt + 0x21, math.MinInt, math.MaxInt,
}

func randomBytes(r *rand.Rand, n int) []byte {
	b := make([]byte, n)
	for i := range b {
		b[i] = byte(r.Uint32())
	}
	return b
}

// fill writes over a list, up to its capacity.
func fill(b []byte) {
	b = b[:cap(b)]
	for i := range b {
		b[i] = 0xee
	}
}

// eachProtocol calls f with every valid protocol, as its two bytes are.
func eachProtocol(f func(proto int, high, low byte)) {
	for high := 0; high < 256; high += 2 {
		for low := 1; low < 256; low += 2 {
			if high != 0 || low != 255 {
				f(256*high+low, byte(high), byte(low))
			}
		}
	}
}

func wantBytes(t *testing.T, what string, got []byte, err api.Errno, want []byte) {
	t.Helper()
	if err != api.OK || !bytes.Equal(got, want) {
		t.Errorf("%s: % X, %d, want % X", what, got, err, want)
	}
}

func wantError(t *testing.T, what string, got []byte, err, want api.Errno) {
	t.Helper()
	if err != want || len(got) > 0 {
		t.Errorf("%s: % X, %d, want nothing and %d", what, got, err, want)
	}
}

// The words ahead of P4.1: which protocols are valid.
func TestMay(t *testing.T) {
	valid := map[int]bool{}
	eachProtocol(func(proto int, _, _ byte) { valid[proto] = true })
	for proto := -200000; proto <= 200000; proto++ {
		if frame.May(proto) != valid[proto] {
			t.Errorf("May(%X) = %v", proto, frame.May(proto))
		}
	}
	for _, proto := range strange {
		if frame.May(proto) {
			t.Errorf("May(%X) = true", proto)
		}
	}
	for _, proto := range []int{
		1, 3, 253, 0x0201, 0x02ff, 0xfe01, 0xfeff,
		api.ProtoIP, api.ProtoMulti, api.ProtoComp, api.ProtoCCP, api.ProtoECP, api.ProtoLCP, api.ProtoCHAP,
	} {
		if !frame.May(proto) {
			t.Errorf("May(%X) = false", proto)
		}
	}
}

// P4.1: the chapter's examples, and protocols at the edges, in each form.
func TestEncodeOfFewBytes(t *testing.T) {
	for _, c := range []struct {
		proto int
		info  string
		want  [4]string // of no form, Acfc, Pfc, both
	}{
		{0x0021, "\x45", [4]string{"\xff\x03\x00\x21\x45", "\x00\x21\x45", "\xff\x03\x21\x45", "\x21\x45"}},
		{0x0001, "", [4]string{"\xff\x03\x00\x01", "\x00\x01", "\xff\x03\x01", "\x01"}},
		{0x00fd, "\xff\x03", [4]string{"\xff\x03\x00\xfd\xff\x03", "\x00\xfd\xff\x03", "\xff\x03\xfd\xff\x03", "\xfd\xff\x03"}},
		{0x0201, "\x00", [4]string{"\xff\x03\x02\x01\x00", "\x02\x01\x00", "\xff\x03\x02\x01\x00", "\x02\x01\x00"}},
		{0x80fd, "\x01\x02", [4]string{"\xff\x03\x80\xfd\x01\x02", "\x80\xfd\x01\x02", "\xff\x03\x80\xfd\x01\x02", "\x80\xfd\x01\x02"}},
		{0xc023, "\x01", [4]string{"\xff\x03\xc0\x23\x01", "\xc0\x23\x01", "\xff\x03\xc0\x23\x01", "\xc0\x23\x01"}},
		{0xfeff, "", [4]string{"\xff\x03\xfe\xff", "\xfe\xff", "\xff\x03\xfe\xff", "\xfe\xff"}},
		{0xc021, "\x01", [4]string{"\xff\x03\xc0\x21\x01", "\xff\x03\xc0\x21\x01", "\xff\x03\xc0\x21\x01", "\xff\x03\xc0\x21\x01"}},
		{0xc021, "", [4]string{"\xff\x03\xc0\x21", "\xff\x03\xc0\x21", "\xff\x03\xc0\x21", "\xff\x03\xc0\x21"}},
	} {
		for i, f := range forms {
			got, err := frame.Encode(c.proto, []byte(c.info), f)
			wantBytes(t, fmt.Sprintf("P4.1: Encode(%04X) with %v", c.proto, f), got, err, []byte(c.want[i]))
		}
	}
}

// P4.1: the head of each valid protocol, in each form.
func TestEncodeOfEachProtocol(t *testing.T) {
	eachProtocol(func(proto int, high, low byte) {
		for _, f := range forms {
			want := []byte{0xff, 0x03, high, low, 'x'}
			switch lcp := proto == 0xc021; {
			case f.Acfc && f.Pfc && high == 0:
				want = []byte{low, 'x'}
			case f.Pfc && high == 0:
				want = []byte{0xff, 0x03, low, 'x'}
			case f.Acfc && !lcp:
				want = want[2:]
			}
			got, err := frame.Encode(proto, []byte{'x'}, f)
			wantBytes(t, fmt.Sprintf("Encode(%04X) with %v", proto, f), got, err, want)
		}
	})
}

// P4.1: infos of many lengths up to the longest, of bytes that look like a head, too.
func TestEncodeOfInfos(t *testing.T) {
	r := rand.New(rand.NewPCG(4, 1))
	for _, n := range []int{0, 1, 2, 3, 255, 256, 1499, 1500, 1501, longest - 1, longest} {
		for _, info := range [][]byte{randomBytes(r, n), bytes.Repeat([]byte{0xff, 0x03}, n/2), make([]byte, n)} {
			got, err := frame.Encode(0x0021, info, none)
			wantBytes(t, fmt.Sprintf("Encode of %d bytes", n), got, err, append([]byte{0xff, 0x03, 0x00, 0x21}, info...))
			got, err = frame.Encode(0x0021, info, both)
			wantBytes(t, fmt.Sprintf("Encode of %d bytes, short", n), got, err, append([]byte{0x21}, info...))
			got, err = frame.Encode(0xc021, info, both)
			wantBytes(t, fmt.Sprintf("Encode of %d bytes of LCP", n), got, err, append([]byte{0xff, 0x03, 0xc0, 0x21}, info...))
		}
	}
}

// P4.1: the errors of Encode and their order, with R2.
func TestEncodeErrors(t *testing.T) {
	for _, f := range forms {
		for _, n := range []int{0, 1, longest, tooLong, 70000} {
			info := make([]byte, n)
			for _, proto := range strange {
				got, err := frame.Encode(proto, info, f)
				wantError(t, fmt.Sprintf("Encode(%X) of %d bytes", proto, n), got, err, api.ErrArg)
			}
			for _, proto := range []int{1, 0x0021, 0x00fd, 0xc021, 0xfeff} {
				if got, err := frame.Encode(proto, info, f); n > longest {
					wantError(t, fmt.Sprintf("Encode(%X) of %d bytes", proto, n), got, err, api.ErrLong)
				}
			}
		}
	}
}

// P4.1 with R4: Encode leaves its argument, up to its capacity, and shares nothing with it.
func TestEncodeSharesNothing(t *testing.T) {
	for _, f := range forms {
		whole := []byte("info, and more behind it")
		keep := bytes.Clone(whole)
		got, err := frame.Encode(0x0021, whole[:4], f)
		want := bytes.Clone(got)
		wantBytes(t, "the argument after the call", whole, api.OK, keep)
		fill(whole)
		wantBytes(t, "the answer after the argument changed", got, err, want)
		copy(whole, keep)
		fill(got)
		wantBytes(t, "the argument after the answer changed", whole, api.OK, keep)
		got, err = frame.Encode(0x0021, whole[:4], f)
		wantBytes(t, "the answer to the same call", got, err, want)
	}
}
