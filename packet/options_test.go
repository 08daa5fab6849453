package packet_test

import (
	"bytes"
	"fmt"
	"math/rand/v2"
	"strings"
	"testing"

	"fairlead/api"
	"fairlead/packet"
)

const (
	mostOptions = 32
	mostPerOne  = 253 // bytes of data
)

// flat is a list of options and an error as a text: equal lists have equal texts.
func flat(l []api.Option, err api.Errno) string {
	var s strings.Builder
	for _, o := range l {
		fmt.Fprintf(&s, "%d: % X; ", o.Type, o.Data)
	}
	fmt.Fprintf(&s, "error %d", err)
	return s.String()
}

func split(b []byte) string { return flat(packet.Split(b)) }

func wantSplit(t *testing.T, what string, b []byte, want string) {
	t.Helper()
	if got := split(b); got != want {
		t.Errorf("Split of %s: %s, want %s", what, got, want)
	}
}

func wantOptions(t *testing.T, what string, l []api.Option, want []byte) {
	t.Helper()
	got, err := packet.Options(l)
	wantBytes(t, "Options of "+what, got, err, want)
}

// several is n options with the type 3 and no data.
func several(n int) []api.Option {
	l := make([]api.Option, n)
	for i := range l {
		l[i].Type = 3
	}
	return l
}

// draw is n options of any types, with data of any lengths.
func draw(r *rand.Rand, n int) []api.Option {
	l := make([]api.Option, n)
	for i := range l {
		size := r.IntN(5)
		if r.IntN(8) == 0 {
			size = r.IntN(mostPerOne + 1)
		}
		l[i] = api.Option{Type: r.IntN(256), Data: random(r.Uint64(), size)}
	}
	return l
}

// known are lists, with their bytes as they were written by hand.
func known() []struct {
	l []api.Option
	b string
} {
	long := make([]byte, mostPerOne)
	return []struct {
		l []api.Option
		b string
	}{
		{[]api.Option{{Type: 1, Data: []byte{5, 0xdc}}}, "\x01\x04\x05\xdc"},
		{nil, ""},
		{[]api.Option{}, ""},
		{[]api.Option{{}}, "\x00\x02"},
		{[]api.Option{{Type: 7, Data: []byte{}}}, "\x07\x02"},
		{[]api.Option{{Type: 255, Data: []byte{0xff}}}, "\xff\x03\xff"},
		{[]api.Option{{Type: 7}, {Type: 8}, {Type: 7}}, "\x07\x02\x08\x02\x07\x02"},
		{[]api.Option{{Type: 2, Data: []byte{2, 2}}, {Type: 2}}, "\x02\x04\x02\x02\x02\x02"},
		{[]api.Option{{Type: 3, Data: []byte{0xc2, 0x23, 0x81}}, {Type: 5, Data: []byte{1, 2, 3, 4}}, {Type: 18}}, "\x03\x05\xc2\x23\x81\x05\x06\x01\x02\x03\x04\x12\x02"},
		{[]api.Option{{Type: 4, Data: long}, {Type: 5}}, "\x04\xff" + string(long) + "\x05\x02"},
	}
}

// P11.2: the chapter's example, and lists whose bytes were written by hand, both ways.
func TestKnownLists(t *testing.T) {
	for _, c := range known() {
		wantOptions(t, flat(c.l, api.OK)+" (P11.2)", c.l, []byte(c.b))
		wantSplit(t, fmt.Sprintf("% X (P11.2)", c.b), []byte(c.b), flat(c.l, api.OK))
	}
	wantSplit(t, "nil (P11.2)", nil, flat(nil, api.OK))
}

// P11.2: each type with data of each length.
func TestOptionsOfEachTypeAndLength(t *testing.T) {
	data := random(6, mostPerOne)
	for kind := range 256 {
		for n := range mostPerOne + 1 {
			l := []api.Option{{Type: kind, Data: data[:n]}}
			b := append([]byte{byte(kind), byte(n + 2)}, data[:n]...)
			wantOptions(t, fmt.Sprintf("type %d with %d bytes (P11.2)", kind, n), l, b)
			wantSplit(t, fmt.Sprintf("type %d with %d bytes (P11.2)", kind, n), b, flat(l, api.OK))
		}
	}
}

// P11.2: as many options as may be, and more; with too many, a wrong option counts for nothing.
func TestOptionsOfManyOptions(t *testing.T) {
	for n := range mostOptions + 1 {
		wantOptions(t, fmt.Sprintf("%d options (P11.2)", n), several(n), bytes.Repeat([]byte{3, 2}, n))
	}
	full := several(mostOptions)
	for i := range full {
		full[i].Data = random(uint64(i), mostPerOne)
	}
	var want []byte
	for _, o := range full {
		want = append(append(want, 3, 255), o.Data...)
	}
	wantOptions(t, "options as many and as long as may be (P11.2)", full, want)
	for _, n := range []int{mostOptions + 1, mostOptions + 2, 64, 1000} {
		for _, wrong := range []int{0, mostOptions - 1, mostOptions, n - 1} {
			l := several(n)
			got, err := packet.Options(l)
			wantError(t, fmt.Sprintf("P11.2: Options of %d options", n), got, err, api.ErrLong)
			l[wrong].Type = -1
			got, err = packet.Options(l)
			wantError(t, fmt.Sprintf("P11.2: Options of %d options, %d wrong", n, wrong), got, err, api.ErrLong)
		}
	}
}

// P11.2: ErrArg for one wrong option, wherever it stands.
func TestOptionsOfWrongOptions(t *testing.T) {
	var wrong []api.Option
	for _, kind := range noBytes() {
		wrong = append(wrong, api.Option{Type: kind}, api.Option{Type: kind, Data: make([]byte, mostPerOne+1)})
	}
	for _, n := range []int{mostPerOne + 1, 255, 256, 257, 510, 1500, 70000} {
		wrong = append(wrong, api.Option{Data: make([]byte, n)}, api.Option{Type: 255, Data: make([]byte, n)})
	}
	for _, o := range wrong {
		for _, n := range []int{1, 2, mostOptions} {
			for place := range n {
				l := several(n)
				l[place] = o
				got, err := packet.Options(l)
				what := fmt.Sprintf("P11.2: Options of %d options, %d of type %d with %d bytes", n, place, o.Type, len(o.Data))
				wantError(t, what, got, err, api.ErrArg)
			}
		}
	}
}

// P11.2: the chapter's examples, and a wrong length behind options that are right.
func TestSplitOfWrongLengths(t *testing.T) {
	for _, b := range []string{
		"\x01\x01", "\x01", "\x00", "\x02", "\xff", "\x01\x00", "\x00\x00", "\x01\x00\x00\x00", "\x01\x01\x01\x01",
		"\x01\x03", "\x01\x04\x05", "\x01\xff", "\xff\xff\xff", "\x01\xff" + string(make([]byte, mostPerOne-1)),
	} {
		for _, ahead := range []string{"", "\x07\x02", "\x01\x04\x05\xdc", "\x01\x04\x01\x01\x08\x02", strings.Repeat("\x07\x02", mostOptions-1)} {
			wantSplit(t, fmt.Sprintf("% X% X (P11.2)", ahead, b), []byte(ahead+b), flat(nil, api.ErrForm))
		}
	}
}

// P11.2: each length, with as many bytes behind it, fewer and more.
func TestSplitOfEachLength(t *testing.T) {
	for length := range 256 {
		for there := range 260 {
			b := append([]byte{9, byte(length)}, make([]byte, there)...)
			what := fmt.Sprintf("an option that states %d, with %d bytes (P11.2)", length, there+2)
			switch rest := there + 2 - length; {
			case length < 2 || rest < 0:
				wantSplit(t, what, b, flat(nil, api.ErrForm))
			case rest == 0:
				wantSplit(t, what, b, flat([]api.Option{{Type: 9, Data: make([]byte, there)}}, api.OK))
			default: // options that state 0, or one that has no length
				wantSplit(t, what, b, flat(nil, api.ErrForm))
			}
		}
	}
}

// P11.2: as many options as may be, and more; and a wrong length at each place:
// it is told where fewer options are ahead of it than may be, or else that they
// are too many.
func TestSplitOfManyOptions(t *testing.T) {
	for n := range 70 {
		want := flat(several(n), api.OK)
		if n > mostOptions {
			want = flat(nil, api.ErrLong)
		}
		wantSplit(t, fmt.Sprintf("%d options (P11.2)", n), bytes.Repeat([]byte{3, 2}, n), want)
		want = flat(nil, api.ErrForm)
		if n >= mostOptions {
			want = flat(nil, api.ErrLong)
		}
		more := strings.Repeat("\x03\x02", 40)
		for _, wrong := range []string{"\x03", "\x03\x00", "\x03\x01", "\x03\x03", "\x03\xff", "\x03\x00" + more, "\x03\x01" + more} {
			b := append(bytes.Repeat([]byte{3, 2}, n), wrong...)
			wantSplit(t, fmt.Sprintf("%d options and % X (P11.2)", n, wrong), b, want)
		}
	}
}

// modelSplit is what P11.2 asks of Split, word by word.
func modelSplit(b []byte) string {
	var l []api.Option
	for len(b) > 0 {
		if len(l) == mostOptions {
			return flat(nil, api.ErrLong)
		}
		if len(b) == 1 || b[1] < 2 || int(b[1]) > len(b) {
			return flat(nil, api.ErrForm)
		}
		l = append(l, api.Option{Type: int(b[0]), Data: b[2:b[1]]})
		b = b[b[1]:]
	}
	return flat(l, api.OK)
}

// P11.2 and P11.3: bytes of many kinds; what is split is joined again to the same bytes.
func TestSplitOfAnyBytes(t *testing.T) {
	r := rand.New(rand.NewPCG(11, 2))
	whole := 0
	for range 100000 {
		b := make([]byte, r.IntN(80))
		most := 2 + r.IntN(8)
		for i := range b {
			b[i] = byte(r.IntN(most))
			if r.IntN(2) == 0 {
				b[i] = 2
			}
		}
		wantSplit(t, fmt.Sprintf("% X (P11.2)", b), b, modelSplit(b))
		if l, err := packet.Split(b); err == api.OK {
			whole++
			wantOptions(t, "the answer of Split (P11.3)", l, b)
		}
	}
	if whole < 1000 {
		t.Errorf("%d lists were split", whole)
	}
}

// P11.3: what is joined is split again to the same options.
func TestSplitOfOptions(t *testing.T) {
	r := rand.New(rand.NewPCG(11, 3))
	for i := range 3000 {
		l := draw(r, i%(mostOptions+1))
		b, err := packet.Options(l)
		wantSplit(t, "the answer of Options (P11.3)", b, flat(l, err))
		again, err := packet.Split(b)
		if err != api.OK || !packet.Same(again, l) {
			t.Errorf("P11.3: Same of %s and %s: false", flat(again, err), flat(l, api.OK))
		}
	}
}

// P11.2 with R4: Split leaves its argument, up to its capacity, and shares
// nothing with it; nor do two options share anything.
func TestSplitSharesNothing(t *testing.T) {
	whole := []byte("\x01\x04\x05\xdc\x07\x02\x03\x05\xc2\x23\x81\x08\x02\x05\x06\x01\x02\x03\x04, and more behind it")
	const size = 19
	keep := bytes.Clone(whole)
	l, err := packet.Split(whole[:size])
	want := flat(l, err)
	wantBytes(t, "the argument after the call", whole, err, keep)
	for i := range l {
		before := flat(append(l[:i:i], l[i+1:]...), api.OK)
		scribble(l[i].Data)
		wantBytes(t, "the argument after an option changed", whole, err, keep)
		if after := flat(append(l[:i:i], l[i+1:]...), api.OK); after != before {
			t.Errorf("the other options after option %d changed: %s, want %s", i, after, before)
		}
		scribble(l[i].Data)
	}
	for i := range l[:cap(l)] {
		l[:cap(l)][i] = api.Option{Type: -1}
	}
	wantSplit(t, "the same bytes", whole[:size], want)
	l, err = packet.Split(whole[:size])
	scribble(whole)
	if got := flat(l, err); got != want {
		t.Errorf("the answer after the argument changed: %s, want %s", got, want)
	}
}

// P11.2 with R4: Options leaves its list and the data in it, up to their
// capacities, and shares nothing with them.
func TestOptionsSharesNothing(t *testing.T) {
	first, second := random(7, 40), random(8, 40)
	l := []api.Option{{Type: 1, Data: first[:4]}, {Type: 2, Data: second[:0]}, {Type: 3, Data: []byte("behind the list")}}
	keep := bytes.Join([][]byte{first, second}, nil)
	unchanged := func(when string) {
		t.Helper()
		wantBytes(t, "the data "+when, bytes.Join([][]byte{first, second}, nil), api.OK, keep)
		if l[0].Type != 1 || l[1].Type != 2 || l[2].Type != 3 || string(l[2].Data) != "behind the list" {
			t.Errorf("the list %s: %v", when, l)
		}
	}
	b, err := packet.Options(l[:2])
	want := bytes.Clone(b)
	unchanged("after the call")
	scribble(b)
	unchanged("after the answer changed")
	scribble(b)
	scribble(first)
	wantBytes(t, "the answer after the data changed", b, err, want)
}
