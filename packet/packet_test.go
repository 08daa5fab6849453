package packet_test

import (
	"bytes"
	"encoding/binary"
	"fmt"
	"math"
	"math/rand/v2"
	"testing"

	"fairlead/api"
	"fairlead/packet"
)

const (
	longest  = 1500        // bytes of a packet
	mostData = longest - 4 // bytes of its data
)

// noBytes are numbers that one byte does not hold.
func noBytes() []int {
	return []int{
		-1, -7, -255, -256, 256, 257, 512, 1 << 16, 1<<16 + 7, 1<<32 + 7, -1<<32 + 7, 1<<63 - 256,
		math.MinInt, math.MinInt + 7, math.MaxInt,
	}
}

// random is n bytes, other ones for each seed.
func random(seed uint64, n int) []byte {
	b := make([]byte, n)
	rand.NewChaCha8([32]byte(binary.LittleEndian.AppendUint64(make([]byte, 24), seed))).Read(b)
	return b
}

// scribble writes over a list, up to its capacity.
func scribble(b []byte) {
	for i := range b[:cap(b)] {
		b[:cap(b)][i] ^= 0x55
	}
}

// outcome is what Decode answers, as values that == compares.
type outcome struct {
	code, id int
	data     string
	err      api.Errno
}

func (o outcome) String() string {
	return fmt.Sprintf("%d, %d, % X, %d", o.code, o.id, o.data, o.err)
}

func decode(b []byte) outcome {
	p, err := packet.Decode(b)
	return outcome{p.Code, p.Id, string(p.Data), err}
}

func wantDecode(t *testing.T, what string, b []byte, want outcome) {
	t.Helper()
	if got := decode(b); got != want {
		t.Errorf("Decode of %s: %v, want %v", what, got, want)
	}
}

func wantBytes(t *testing.T, what string, got []byte, err api.Errno, want []byte) {
	t.Helper()
	if err != api.OK || !bytes.Equal(got, want) {
		t.Errorf("%s: % X, %d, want % X", what, got, err, want)
	}
}

// wantError has R2 in it: beside an error there is nothing.
func wantError(t *testing.T, what string, got []byte, err, want api.Errno) {
	t.Helper()
	if err != want || len(got) > 0 {
		t.Errorf("%s: % X, %d, want nothing and %d", what, got, err, want)
	}
}

// P11.1: the chapter's example, and packets whose bytes were written by hand.
func TestEncodeOfKnownPackets(t *testing.T) {
	for _, c := range []struct {
		p    api.Packet
		want string
	}{
		{api.Packet{Code: 1, Id: 7, Data: []byte{1, 4, 5, 0xdc}}, "\x01\x07\x00\x08\x01\x04\x05\xdc"},
		{api.Packet{}, "\x00\x00\x00\x04"},
		{api.Packet{Code: 5, Id: 9, Data: []byte{}}, "\x05\x09\x00\x04"},
		{api.Packet{Code: 255, Id: 255}, "\xff\xff\x00\x04"},
		{api.Packet{Code: 255, Data: []byte{0}}, "\xff\x00\x00\x05\x00"},
		{api.Packet{Id: 255, Data: []byte{0xff}}, "\x00\xff\x00\x05\xff"},
		{api.Packet{Code: 14, Id: 2, Data: make([]byte, 252)}, "\x0e\x02\x01\x00" + string(make([]byte, 252))},
		{api.Packet{Code: 15, Id: 3, Data: make([]byte, 1496)}, "\x0f\x03\x05\xdc" + string(make([]byte, 1496))},
	} {
		got, err := packet.Encode(c.p)
		wantBytes(t, fmt.Sprintf("P11.1: Encode(%d, %d, %d bytes)", c.p.Code, c.p.Id, len(c.p.Data)), got, err, []byte(c.want))
	}
}

// P11.1: each code with each id.
func TestEncodeOfEachCodeAndId(t *testing.T) {
	for code := range 256 {
		for id := range 256 {
			got, err := packet.Encode(api.Packet{Code: code, Id: id, Data: []byte("x")})
			want := []byte{byte(code), byte(id), 0, 5, 'x'}
			wantBytes(t, fmt.Sprintf("P11.1: Encode(%d, %d)", code, id), got, err, want)
		}
	}
}

// P11.1: data of each length, up to the longest.
func TestEncodeOfEachLength(t *testing.T) {
	for n := range mostData + 1 {
		data := random(uint64(n), n)
		got, err := packet.Encode(api.Packet{Code: 1, Id: 2, Data: data})
		want := append(binary.BigEndian.AppendUint16([]byte{1, 2}, uint16(n+4)), data...)
		wantBytes(t, fmt.Sprintf("P11.1: Encode of %d bytes", n), got, err, want)
	}
}

// P11.1: ErrArg, also with data that is too long, and ErrLong.
func TestEncodeErrors(t *testing.T) {
	for _, n := range []int{0, 1, mostData, mostData + 1, longest, 65531, 65532, 70000} {
		data := make([]byte, n)
		refused := func(code, id int, want api.Errno) {
			got, err := packet.Encode(api.Packet{Code: code, Id: id, Data: data})
			wantError(t, fmt.Sprintf("P11.1: Encode(%d, %d, %d bytes)", code, id, n), got, err, want)
		}
		for _, x := range noBytes() {
			for _, y := range []int{0, 7, 255, x} {
				refused(x, y, api.ErrArg)
				refused(y, x, api.ErrArg)
			}
		}
		for _, x := range []int{0, 1, 255} {
			if n > mostData {
				refused(x, 255-x, api.ErrLong)
			}
		}
	}
}

// P11.1 with R4: Encode leaves its argument, up to its capacity, and shares nothing with it.
func TestEncodeSharesNothing(t *testing.T) {
	for _, n := range []int{0, 1, 4, 100, mostData} {
		whole := random(1, n+64)
		keep := bytes.Clone(whole)
		got, err := packet.Encode(api.Packet{Code: 1, Id: 2, Data: whole[:n]})
		want := bytes.Clone(got)
		wantBytes(t, "the data after the call", whole, err, keep)
		scribble(got)
		wantBytes(t, "the data after the answer changed", whole, err, keep)
		scribble(got)
		scribble(whole)
		wantBytes(t, "the answer after the data changed", got, err, want)
	}
}

// P11.1: the chapter's examples, and each error at its edges.
func TestDecodeOfKnownBytes(t *testing.T) {
	for _, c := range []struct {
		b    string
		want outcome
	}{
		{"\x01\x07\x00\x08\x01\x04\x05\xdc", outcome{1, 7, "\x01\x04\x05\xdc", api.OK}},
		{"\x01\x07\x00", outcome{err: api.ErrShort}},
		{"\x01\x07\x00\x03", outcome{err: api.ErrForm}},
		{"\x01\x07\x00\x05", outcome{err: api.ErrShort}},
		{"", outcome{err: api.ErrShort}},
		{"\x01", outcome{err: api.ErrShort}},
		{"\x01\x07", outcome{err: api.ErrShort}},
		{"\x00\x00\x00\x00", outcome{err: api.ErrForm}},
		{"\x01\x07\x00\x00 and more", outcome{err: api.ErrForm}},
		{"\x01\x07\x00\x03 and more", outcome{err: api.ErrForm}},
		{"\x01\x07\x00\x04", outcome{1, 7, "", api.OK}},
		{"\x00\x00\x00\x04 and more", outcome{0, 0, "", api.OK}},
		{"\xff\xff\x00\x05 and more", outcome{255, 255, " ", api.OK}},
		{"\x01\x07\x00\x06\x01", outcome{err: api.ErrShort}},
		{"\x01\x07\x01\x00\x01", outcome{err: api.ErrShort}},
		{"\x01\x07\x04\x00", outcome{err: api.ErrShort}}, // no length of 4, the least significant byte first
		{"\x01\x07\xff\xff", outcome{err: api.ErrShort}},
	} {
		wantDecode(t, fmt.Sprintf("% X (P11.1)", c.b), []byte(c.b), c.want)
	}
	wantDecode(t, "nil (P11.1)", nil, outcome{err: api.ErrShort})
}

// P11.1: lengths about the longest, with as many bytes, fewer and more behind
// them: a packet that is not there as a whole is short first, then too long.
func TestDecodeOfLongPackets(t *testing.T) {
	for _, c := range []struct {
		stated, there int
		want          api.Errno
	}{
		{1499, 1498, api.ErrShort}, {1499, 1499, api.OK}, {1499, 1500, api.OK},
		{1500, 1499, api.ErrShort}, {1500, 1500, api.OK}, {1500, 1501, api.OK}, {1500, 70000, api.OK},
		{1501, 1500, api.ErrShort}, {1501, 1501, api.ErrLong}, {1501, 1502, api.ErrLong}, {1501, 70000, api.ErrLong},
		{4096, 4, api.ErrShort}, {4096, 1500, api.ErrShort}, {4096, 4096, api.ErrLong},
		{65535, 4, api.ErrShort}, {65535, 65534, api.ErrShort}, {65535, 65535, api.ErrLong}, {65535, 70000, api.ErrLong},
	} {
		b := random(2, c.there)
		b[0], b[1] = 1, 7
		binary.BigEndian.PutUint16(b[2:], uint16(c.stated))
		want := outcome{err: c.want}
		if c.want == api.OK {
			want = outcome{1, 7, string(b[4:c.stated]), api.OK}
		}
		wantDecode(t, fmt.Sprintf("%d bytes that state %d (P11.1)", c.there, c.stated), b, want)
	}
}

// modelOutcome is what P11.1 asks of Decode, word by word.
func modelOutcome(b []byte) outcome {
	if len(b) < 4 {
		return outcome{err: api.ErrShort}
	}
	stated := 256*int(b[2]) + int(b[3])
	switch {
	case stated < 4:
		return outcome{err: api.ErrForm}
	case stated > len(b):
		return outcome{err: api.ErrShort}
	case stated > longest:
		return outcome{err: api.ErrLong}
	}
	return outcome{int(b[0]), int(b[1]), string(b[4:stated]), api.OK}
}

// P11.1: each stated length, with bytes of many numbers.
func TestDecodeOfEachLength(t *testing.T) {
	whole := random(3, 70000)
	for stated := range 1 << 16 {
		binary.BigEndian.PutUint16(whole[2:], uint16(stated))
		for _, n := range []int{3, 4, 5, stated - 1, stated, stated + 1, longest - 1, longest, longest + 1, 70000} {
			b := whole[:max(n, 0)]
			wantDecode(t, fmt.Sprintf("%d bytes that state %d (P11.1)", n, stated), b, modelOutcome(b))
		}
	}
}

// P11.1: the first four bytes, each with each value.
func TestDecodeOfEachByte(t *testing.T) {
	for place := range 4 {
		for x := range 256 {
			b := append([]byte{1, 7, 0, 9}, random(4, 300)...)
			b[place] = byte(x)
			wantDecode(t, fmt.Sprintf("% X and 300 bytes (P11.1)", b[:4]), b, modelOutcome(b))
		}
	}
}

// P11.1 with R4: Decode leaves its argument, up to its capacity, and shares nothing with it.
func TestDecodeSharesNothing(t *testing.T) {
	for _, n := range []int{0, 1, 4, 100, mostData} {
		for _, behind := range []int{0, 1, 20} {
			whole := random(5, 4+n+64)
			binary.BigEndian.PutUint16(whole[2:], uint16(4+n))
			keep := bytes.Clone(whole)
			p, err := packet.Decode(whole[:4+n+behind])
			wantBytes(t, "the argument after the call", whole, err, keep)
			scribble(p.Data)
			wantBytes(t, "the argument after the answer changed", whole, err, keep)
			scribble(p.Data)
			scribble(whole)
			wantBytes(t, "the answer after the argument changed", p.Data, err, keep[4:4+n])
		}
	}
}

// P11.3: Decode answers what was encoded, whatever is behind it.
func TestDecodeOfEncode(t *testing.T) {
	r := rand.New(rand.NewPCG(11, 1))
	lengths := []int{0, 1, 2, 251, 252, 253, mostData - 1, mostData}
	for i := range 5000 {
		n := lengths[i%len(lengths)]
		if i%2 == 1 {
			n = r.IntN(mostData + 1)
		}
		p := api.Packet{Code: r.IntN(256), Id: r.IntN(256), Data: random(r.Uint64(), n)}
		b, err := packet.Encode(p)
		want := outcome{p.Code, p.Id, string(p.Data), err}
		wantDecode(t, "Encode (P11.3)", b, want)
		for _, behind := range []int{1, r.IntN(10), r.IntN(3000)} {
			wantDecode(t, fmt.Sprintf("Encode, and %d bytes (P11.3)", behind), append(b, random(r.Uint64(), behind)...), want)
		}
	}
}
