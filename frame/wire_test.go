package frame_test

import (
	"bytes"
	"fmt"
	"math/rand/v2"
	"slices"
	"testing"

	"fairlead/api"
	"fairlead/fcs"
	"fairlead/frame"
	"fairlead/stuff"
)

// P4.2: frames whose sums were worked out apart from this program.
func TestWireOfFewBytes(t *testing.T) {
	for _, c := range []struct {
		proto int
		info  string
		f     api.Form
		accm  uint32
		want  string
	}{
		{0x0021, "\x45", none, 0, "\x7e\xff\x03\x00\x21\x45\xa2\x30\x7e"},
		{0x0021, "\x45", both, 0, "\x7e\x21\x45\x05\x20\x7e"},
		{0x0021, "\x45", both, 1 << 5, "\x7e\x21\x45\x7d\x25\x20\x7e"},
		{0x0021, "\x11", both, 1 << 17, "\x7e\x21\x7d\x31\xa4\x34\x7e"},
		{0x0021, "", none, 0xffffffff, "\x7e\xff\x7d\x23\x7d\x20\x21\xe3\xe6\x7e"},
		{0xc021, "\x01", both, 0xffffffff, "\x7e\xff\x7d\x23\xc0\x21\x7d\x21\x7d\x38\x3e\x7e"},
		{0xc021, "\x7e\x7d\x11", both, 0, "\x7e\xff\x03\xc0\x21\x7d\x5e\x7d\x5d\x11\x40\x07\x7e"},
	} {
		got, err := frame.Wire(c.proto, []byte(c.info), c.f, c.accm)
		wantBytes(t, fmt.Sprintf("P4.2: Wire(%04X, % X)", c.proto, c.info), got, err, []byte(c.want))
	}
}

// P4.2: Wire is Encode, the sum and the flags, for any input, its errors included.
func TestWireOfEncode(t *testing.T) {
	r := rand.New(rand.NewPCG(4, 6))
	for range 2000 {
		proto, info, f, accm := r.IntN(0x10100), randomBytes(r, r.IntN(20)), forms[r.IntN(4)], r.Uint32()
		if r.IntN(50) == 0 {
			info = randomBytes(r, longest-1+r.IntN(4))
		}
		b, want := frame.Encode(proto, info, f)
		got, err := frame.Wire(proto, info, f, accm)
		if want != api.OK {
			wantError(t, fmt.Sprintf("Wire(%X)", proto), got, err, want)
			continue
		}
		wantBytes(t, fmt.Sprintf("Wire(%X)", proto), got, err, stuff.Stuff(fcs.Add(b), accm))
	}
}

// P4.2: the errors of Wire are those of Encode, in the same order.
func TestWireErrors(t *testing.T) {
	for _, f := range forms {
		for _, proto := range strange {
			for _, n := range []int{0, longest, tooLong} {
				got, err := frame.Wire(proto, make([]byte, n), f, 0)
				wantError(t, fmt.Sprintf("Wire(%X) of %d bytes", proto, n), got, err, api.ErrArg)
			}
		}
		got, err := frame.Wire(0x0021, make([]byte, tooLong), f, 0xffffffff)
		wantError(t, "Wire of too many bytes", got, err, api.ErrLong)
		got, err = frame.Wire(0xc021, make([]byte, longest), f, 0)
		want := slices.Concat([]byte{0x7e, 0xff, 0x03, 0xc0, 0x21}, make([]byte, longest))
		wantBytes(t, "Wire of the most bytes", got[:min(len(got), len(want))], err, want)
	}
}

// P4.2: Read of a right sum is Decode of what is ahead of it.
func TestReadIsDecode(t *testing.T) {
	for _, c := range few {
		for i, f := range forms {
			what := fmt.Sprintf("P4.2: Read(% X and its sum) with %v", c.b, f)
			wantAnswer(t, what, read(fcs.Add([]byte(c.b)), f), c.want[i])
		}
	}
	head := []byte{0xff, 0x03, 0x00, 0x21}
	for _, n := range []int{longest, tooLong} {
		info := bytes.Repeat([]byte{0x7e}, n)
		want := long
		if n == longest {
			want = has(0x21, string(info))
		}
		wantAnswer(t, fmt.Sprintf("P4.2: Read of %d bytes", n), read(fcs.Add(slices.Concat(head, info)), none), want)
	}
}

// P4.2: frames with their sums as they lie in memory, and a wrong sum ahead of every other fault.
func TestReadOfFewBytes(t *testing.T) {
	for _, c := range []struct {
		what, b string
		f       api.Form
		want    answer
	}{
		{"no byte", "", none, sum},
		{"no byte, short", "", both, sum},
		{"one byte", "\x00", both, sum},
		{"the sum of no byte", "\x00\x00", none, form},
		{"the sum of no byte, short", "\x00\x00", both, short},
		{"a frame", "\xff\x03\x00\x21\x45\xa2\x30", none, has(0x21, "\x45")},
		{"a short frame", "\x21\x45\x05\x20", both, has(0x21, "\x45")},
		{"a short frame that has to be whole", "\x21\x45\x05\x20", none, form},
		{"a frame without info", "\xff\x03\x00\x21\xe3\xe6", both, has(0x21, "")},
		{"an address alone", "\xff\x03\x1c\xc2", both, short},
		{"half a protocol", "\xff\x03\x21\xdc\x1a", none, form},
		{"a sum the wrong way round", "\xff\x03\x00\x21\x45\x30\xa2", none, sum},
		{"a sum that is cut", "\xff\x03\x00\x21\x45\xa2", none, sum},
		{"a byte behind the sum", "\xff\x03\x00\x21\x45\xa2\x30\x00", none, sum},
		{"a wrong sum and a wrong protocol", "\xff\x03\x00\x20\x7e\x2a\xa7", none, sum},
		{"a wrong protocol", "\xff\x03\x00\x20\x7e\x2a\xa6", none, form},
		{"flags about a frame", "\x7e\x21\x45\x05\x20\x7e", both, sum},
	} {
		wantAnswer(t, "P4.2: "+c.what, read([]byte(c.b), c.f), c.want)
	}
	wantAnswer(t, "P4.2: a wrong sum and too long", read(make([]byte, 70000), both), sum)
}

// P4.2: a frame in which one bit has changed is not read.
func TestReadOfChangedBit(t *testing.T) {
	for _, info := range []string{"", "\x45", "some bytes of a datagram"} {
		for _, f := range forms {
			c, _ := frame.Encode(0x0021, []byte(info), f)
			b := fcs.Add(c)
			for i := range 8 * len(b) {
				b[i/8] ^= 1 << (i % 8)
				wantAnswer(t, fmt.Sprintf("bit %d of %d bytes", i, len(b)), read(b, f), sum)
				b[i/8] ^= 1 << (i % 8)
			}
			wantAnswer(t, "no bit", read(b, f), has(0x21, info))
		}
	}
}

// P4.2 and P4.3: what Wire sends comes back through a deframer and Read, whatever the form and the map.
func TestReadOfWire(t *testing.T) {
	r := rand.New(rand.NewPCG(4, 7))
	d, _ := stuff.New(0, api.MaxFrame)
	for i := range 2000 {
		high, low := 2*r.IntN(128), 1+2*r.IntN(127)
		proto, f, info := 256*high+low, forms[i%4], randomBytes(r, r.IntN(30))
		switch i % 10 {
		case 0:
			proto = api.ProtoLCP
		case 1:
			info = bytes.Repeat([]byte{0x7e, 0x7d}, longest/2)
		}
		l, err := frame.Wire(proto, info, f, r.Uint32())
		got := d.Feed(l)
		if err != api.OK || len(got) != 1 {
			t.Fatalf("Wire(%X): % X, %d: %d frames", proto, l, err, len(got))
		}
		wantAnswer(t, fmt.Sprintf("Read with %v", f), read(got[0], f), has(proto, string(info)))
		wantAnswer(t, "Read with both", read(got[0], both), has(proto, string(info)))
	}
}

// P4.2 with R4: Wire and Read leave their arguments, up to their capacity, and share nothing with them.
func TestWireAndReadShareNothing(t *testing.T) {
	whole := []byte("info, and more behind it")
	keep := bytes.Clone(whole)
	l, err := frame.Wire(0x0021, whole[:4], none, 0)
	want := bytes.Clone(l)
	wantBytes(t, "the argument of Wire", whole, api.OK, keep)
	fill(whole)
	wantBytes(t, "what Wire answered", l, err, want)

	c, _ := frame.Encode(0x0021, keep[:4], none)
	whole = append(fcs.Add(c), "more behind it"...)
	keep = bytes.Clone(whole)
	_, info, err := frame.Read(whole[:10], none)
	fill(info)
	wantBytes(t, "the argument of Read", whole, err, keep)
	_, info, err = frame.Read(whole[:10], none)
	fill(whole)
	wantBytes(t, "what Read answered", info, err, []byte("info"))
}
