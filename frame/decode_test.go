package frame_test

import (
	"bytes"
	"fmt"
	"math/rand/v2"
	"testing"

	"fairlead/api"
	"fairlead/frame"
)

// answer is what Decode and Read answer.
type answer struct {
	proto int
	info  string
	err   api.Errno
}

func decode(b []byte, f api.Form) answer {
	proto, info, err := frame.Decode(b, f)
	return answer{proto, string(info), err}
}

func read(b []byte, f api.Form) answer {
	proto, info, err := frame.Read(b, f)
	return answer{proto, string(info), err}
}

func has(proto int, info string) answer { return answer{proto: proto, info: info} }

// An answer with an error has nothing beside it (R2).
var (
	short = answer{err: api.ErrShort}
	form  = answer{err: api.ErrForm}
	long  = answer{err: api.ErrLong}
	sum   = answer{err: api.ErrSum}
)

func wantAnswer(t *testing.T, what string, got, want answer) {
	t.Helper()
	if got != want {
		t.Errorf("%s: %X, % X, %d, want %X, % X, %d", what, got.proto, got.info, got.err, want.proto, want.info, want.err)
	}
}

// few are contents of few bytes and what Decode answers with no form, Acfc, Pfc and both.
var few = []struct {
	b    string
	want [4]answer
}{
	{"\x21\x45", [4]answer{form, form, form, has(0x21, "\x45")}},
	{"\x00\x21\x45", [4]answer{form, has(0x21, "\x45"), form, has(0x21, "\x45")}},
	{"\xff\x03\x21\x45", [4]answer{form, form, has(0x21, "\x45"), has(0x21, "\x45")}},
	{"\xff\x03\x00\x21\x45", [4]answer{has(0x21, "\x45"), has(0x21, "\x45"), has(0x21, "\x45"), has(0x21, "\x45")}},
	{"", [4]answer{form, short, form, short}},
	{"\xff", [4]answer{form, form, form, has(0xff, "")}},
	{"\xff\x03", [4]answer{short, short, short, short}},
	{"\xff\x04", [4]answer{form, form, form, has(0xff, "\x04")}},
	{"\xff\x04\x00\x21", [4]answer{form, form, form, has(0xff, "\x04\x00\x21")}},
	{"\x03\xff", [4]answer{form, form, form, has(0x03, "\xff")}},
	{"\x03\xff\x00\x21", [4]answer{form, form, form, has(0x03, "\xff\x00\x21")}},
	{"\xfe\x03\x00\x21", [4]answer{form, has(0xfe03, "\x00\x21"), form, has(0xfe03, "\x00\x21")}},
	{"\xff\x03\xff", [4]answer{form, form, has(0xff, ""), has(0xff, "")}},
	{"\xff\x03\xff\x03", [4]answer{form, form, has(0xff, "\x03"), has(0xff, "\x03")}},
	{"\xff\x03\xff\x03\x00\x21", [4]answer{form, form, has(0xff, "\x03\x00\x21"), has(0xff, "\x03\x00\x21")}},
	{"\x00", [4]answer{form, short, form, short}},
	{"\xff\x03\x00", [4]answer{short, short, short, short}},
	{"\xff\x03\xc0", [4]answer{short, short, short, short}},
	{"\x00\x00", [4]answer{form, form, form, form}},
	{"\xff\x03\x00\x20", [4]answer{form, form, form, form}},
	{"\xff\x03\x00\x20\x21", [4]answer{form, form, form, form}},
	{"\xff\x03\xc0\x22\x01", [4]answer{form, form, form, form}},
	{"\x00\x20\x21", [4]answer{form, form, form, form}},
	{"\x01", [4]answer{form, form, form, has(1, "")}},
	{"\xff\x03\x01", [4]answer{form, form, has(1, ""), has(1, "")}},
	{"\xff\x03\x00\x01", [4]answer{has(1, ""), has(1, ""), has(1, ""), has(1, "")}},
	{"\x00\xff\x01", [4]answer{form, has(0xff, "\x01"), form, has(0xff, "\x01")}},
	{"\xff\x03\x00\xff\x01", [4]answer{has(0xff, "\x01"), has(0xff, "\x01"), has(0xff, "\x01"), has(0xff, "\x01")}},
	{"\xff\x03\xc0\x21\x01", [4]answer{has(0xc021, "\x01"), has(0xc021, "\x01"), has(0xc021, "\x01"), has(0xc021, "\x01")}},
	{"\xc0\x21\x01", [4]answer{form, has(0xc021, "\x01"), form, has(0xc021, "\x01")}},
	{"\xff\x03\xfe\xff\xff\x03", [4]answer{has(0xfeff, "\xff\x03"), has(0xfeff, "\xff\x03"), has(0xfeff, "\xff\x03"), has(0xfeff, "\xff\x03")}},
}

// P4.1: the chapter's examples, and each step of Decode at its edges.
func TestDecodeOfFewBytes(t *testing.T) {
	for _, c := range few {
		for i, f := range forms {
			what := fmt.Sprintf("P4.1: Decode(% X) with %v", c.b, f)
			wantAnswer(t, what, decode([]byte(c.b), f), c.want[i])
		}
	}
	wantAnswer(t, "P4.1: Decode(nil)", decode(nil, none), form)
	wantAnswer(t, "P4.1: Decode(nil), short", decode(nil, both), short)
}

// P4.1: each pair of bytes where the protocol stands, whole heads and short ones.
func TestDecodeOfEachProtocol(t *testing.T) {
	for x := range 1 << 16 {
		high, low := byte(x>>8), byte(x)
		one, two := form, form // what bytes that begin with the protocol mean, with Pfc and without
		switch {
		case high%2 == 0 && low%2 == 1:
			one, two = has(x, "x"), has(x, "x")
		case high%2 == 1:
			one = has(int(high), string([]byte{low, 'x'}))
		}
		whole := []byte{0xff, 0x03, high, low, 'x'}
		wantAnswer(t, "whole", decode(whole, none), two)
		wantAnswer(t, "whole, Acfc", decode(whole, forms[1]), two)
		wantAnswer(t, "whole, Pfc", decode(whole, forms[2]), one)
		wantAnswer(t, "whole, both", decode(whole, both), one)
		if x == 0xff03 {
			continue // an address, not a protocol
		}
		wantAnswer(t, "no address", decode(whole[2:], none), form)
		wantAnswer(t, "no address, Acfc", decode(whole[2:], forms[1]), two)
		wantAnswer(t, "no address, Pfc", decode(whole[2:], forms[2]), form)
		wantAnswer(t, "no address, both", decode(whole[2:], both), one)
	}
}

// P4.1: the longest info and one byte more, behind each head; a wrong head is told first.
func TestDecodeOfLongInfo(t *testing.T) {
	r := rand.New(rand.NewPCG(4, 2))
	for _, n := range []int{1500, longest - 1, longest, tooLong, tooLong + 1, 5000, 70000} {
		info := string(randomBytes(r, n))
		for _, c := range few {
			for i, f := range forms {
				want := c.want[i]
				if want == short || c.b == "\xff" {
					continue // the info would become a part of the head
				}
				if want.err == api.OK {
					want.info += info
				}
				if len(want.info) > longest {
					want = long
				}
				wantAnswer(t, fmt.Sprintf("Decode(% X and %d bytes) with %v", c.b, n, f), decode([]byte(c.b+info), f), want)
			}
		}
	}
}

// P4.1 with R4: Decode leaves its argument, up to its capacity, and shares nothing with it.
func TestDecodeSharesNothing(t *testing.T) {
	r := rand.New(rand.NewPCG(4, 3))
	for _, n := range []int{0, 1, 4, 100, longest} {
		whole := append([]byte{0xff, 0x03, 0x00, 0x21}, randomBytes(r, n+64)...)
		keep := bytes.Clone(whole)
		_, info, err := frame.Decode(whole[:4+n], none)
		fill(info)
		wantBytes(t, "the argument after the answer changed", whole, err, keep)
		_, info, err = frame.Decode(whole[:4+n], none)
		fill(whole)
		wantBytes(t, "the answer after the argument changed", info, err, keep[4:4+n])
	}
}

// P4.3: what was encoded is decoded with the same form, and with one that demands less.
func TestDecodeOfEncode(t *testing.T) {
	r := rand.New(rand.NewPCG(4, 4))
	eachProtocol(func(proto int, _, _ byte) {
		info := randomBytes(r, r.IntN(5))
		if r.IntN(50) == 0 {
			info = randomBytes(r, longest-r.IntN(3))
		}
		for _, f := range forms {
			b, err := frame.Encode(proto, info, f)
			if err != api.OK {
				t.Fatalf("Encode(%X): %d", proto, err)
			}
			wantAnswer(t, fmt.Sprintf("Decode of Encode with %v", f), decode(b, f), has(proto, string(info)))
			wantAnswer(t, fmt.Sprintf("Decode of Encode with %v, read with both", f), decode(b, both), has(proto, string(info)))
		}
	})
}

// P4.3: without Acfc and Pfc, contents of a valid protocol are the only ones with that protocol and info.
func TestOneEncoding(t *testing.T) {
	r := rand.New(rand.NewPCG(4, 5))
	heads := []string{"", "\xff", "\xff\x03", "\xff\x03\x00", "\xff\x03\x00\x21", "\x00\x21", "\x21"}
	found := 0
	for range 200000 {
		b := append([]byte(heads[r.IntN(len(heads))]), randomBytes(r, r.IntN(6))...)
		proto, info, err := frame.Decode(b, none)
		if err != api.OK || !frame.May(proto) {
			continue
		}
		found++
		again, err := frame.Encode(proto, info, none)
		wantBytes(t, "Encode of Decode", again, err, b)
	}
	if found < 1000 {
		t.Errorf("%d contents were decoded", found)
	}
}
