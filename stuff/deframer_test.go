package stuff_test

import (
	"bytes"
	"fmt"
	"math"
	"math/rand/v2"
	"slices"
	"strings"
	"testing"

	"fairlead/api"
	"fairlead/stuff"
)

// modelFrames cuts the whole sequence at its flags first and looks into each frame then.
func modelFrames(l []byte, accm uint32, most int) (frames [][]byte, dropped int) {
	pieces := bytes.Split(l, []byte{0x7e})
	for _, piece := range pieces[:len(pieces)-1] {
		frame, whole := modelFrame(piece, accm)
		switch {
		case !whole || len(frame) > most:
			dropped++
		case len(frame) > 0:
			frames = append(frames, frame)
		}
	}
	return frames, dropped
}

// modelFrame is what lies between two flags, and false if its last escape has no byte.
func modelFrame(piece []byte, accm uint32) ([]byte, bool) {
	var frame []byte
	for len(piece) > 0 {
		x := piece[0]
		switch {
		case x == 0x7d && len(piece) == 1:
			return nil, false
		case x == 0x7d:
			frame, piece = append(frame, piece[1]^0x20), piece[2:]
		case x < 32 && accm&(1<<x) != 0:
			piece = piece[1:]
		default:
			frame, piece = append(frame, x), piece[1:]
		}
	}
	return frame, true
}

func newDeframer(t *testing.T, accm uint32, most int) *stuff.Deframer {
	t.Helper()
	d, err := stuff.New(accm, most)
	if err != api.OK || d == nil {
		t.Fatalf("New(%08X, %d): %v, %d", accm, most, d, err)
	}
	return d
}

func wantFrames(t *testing.T, what string, got [][]byte, want ...[]byte) {
	t.Helper()
	if !slices.EqualFunc(got, want, bytes.Equal) {
		t.Errorf("%s: [% X], want [% X]", what, got, want)
	}
}

func wantDropped(t *testing.T, what string, d *stuff.Deframer, want int) {
	t.Helper()
	if got := d.Dropped(); got != want {
		t.Errorf("%s: %d dropped, want %d", what, got, want)
	}
}

// text is s with some characters for the bytes that matter: ! for an escape and
// 0 to 9 for control characters. The flag is ~ anyway.
func text(s string) []byte {
	b := []byte(strings.ReplaceAll(s, "!", "\x7d"))
	for i, x := range b {
		if x >= '0' && x <= '9' {
			b[i] = x - '0'
		}
	}
	return b
}

// P3.2: what New takes, and R2: nothing beside an error.
func TestNew(t *testing.T) {
	for _, most := range []int{1, 2, 1500, api.MaxFrame - 1, api.MaxFrame} {
		for _, accm := range []uint32{0, 1, 0xffffffff} {
			d := newDeframer(t, accm, most)
			wantDropped(t, "a new deframer", d, 0)
		}
	}
	for _, most := range []int{0, -1, api.MaxFrame + 1, math.MinInt, math.MaxInt, 1 << 32, 1<<32 + 1} {
		if d, err := stuff.New(0, most); d != nil || err != api.ErrArg {
			t.Errorf("New(0, %d): %v, %d", most, d, err)
		}
	}
}

// framesOf are the frames that the texts stand for.
func framesOf(texts []string) [][]byte {
	frames := make([][]byte, len(texts))
	for i, s := range texts {
		frames[i] = text(s)
	}
	return frames
}

// P3.2: one call of Feed on a new deframer for frames of at most 4 bytes, that
// ignores the bytes 1 and 5.
func TestFeedOnce(t *testing.T) {
	for _, c := range []struct {
		what, in string
		want     []string
		dropped  int
	}{
		{"nothing", "", nil, 0},
		{"a frame", "~ab~", []string{"ab"}, 0},
		{"a frame of one byte", "~a~", []string{"a"}, 0},
		{"a frame with no flag ahead", "ab~", []string{"ab"}, 0},
		{"a frame that has not ended", "~ab", nil, 0},
		{"frames that share a flag, in order", "~ab~c~de~", []string{"ab", "c", "de"}, 0},
		{"flags alone", "~~~~", nil, 0},
		{"flags between frames", "~a~~~b~", []string{"a", "b"}, 0},
		{"the most bytes", "~abcd~", []string{"abcd"}, 0},
		{"a byte too many", "~abcde~", nil, 1},
		{"far too many, then a frame", "~abcdeabcdeabcdeabcde~a~", []string{"a"}, 1},
		{"the most bytes, the last escaped", "~abc!D~", []string{"abcd"}, 0},
		{"a byte too many, escaped", "~abcd!E~", nil, 1},
		{"the most bytes, each escaped", "~!A!B!C!D~", []string{"abcd"}, 0},
		{"the most bytes and ignored ones", "~1a5b1c5d1~", []string{"abcd"}, 0},
		{"an escape ahead of the flag", "ab!~", nil, 1},
		{"an escape alone", "~!~", nil, 1},
		{"an escape ahead of the first flag", "!~", nil, 1},
		{"too long and an escape: one frame", "~abcde!~", nil, 1},
		{"an escape ahead of a flag changes no byte after", "~a!~AB~", []string{"AB"}, 1},
		{"frames about a dropped one", "~a~b!~c~", []string{"a", "c"}, 1},
		{"several dropped", "~a!~abcde~!~b~!~", []string{"b"}, 4},
		{"an escaped flag", "~a!^b~", []string{"a~b"}, 0},
		{"an escaped escape", "~a!]b~", []string{"a!b"}, 0},
		{"an escaped escape ahead of the flag", "~a!]~", []string{"a!"}, 0},
		{"an escape after an escape", "~a!!~", []string{"a]"}, 0},
		{"an escape after an escape, and bytes", "~!!A~", []string{"]A"}, 0},
		{"three escapes", "~!!!~", nil, 1},
		{"four escapes", "~!!!!~", []string{"]]"}, 0},
		{"an ignored byte", "~a1b~", []string{"ab"}, 0},
		{"ignored bytes alone", "~15151~", nil, 0},
		{"control characters that are not in the map", "~0246~", []string{"0246"}, 0},
		{"a control character of the map after an escape", "~a!5b~", []string{"a%b"}, 0},
		{"an ignored byte between an escaped byte and others", "~!A1A~", []string{"aA"}, 0},
	} {
		d := newDeframer(t, 1<<1|1<<5, 4)
		wantFrames(t, "P3.2: "+c.what, d.Feed(text(c.in)), framesOf(c.want)...)
		wantDropped(t, "P3.2: "+c.what, d, c.dropped)
	}
}

// P3.2: each byte, plain and after an escape, with a map of none and of all.
func TestFeedOfEachByte(t *testing.T) {
	for _, accm := range []uint32{0, 0xffffffff, 1, 1 << 31, 0x55555555} {
		for x := range 256 {
			d := newDeframer(t, accm, 4)
			plain := d.Feed([]byte{'a', byte(x), 'b', 0x7e})
			switch {
			case x == 0x7e:
				wantFrames(t, "a flag", plain, []byte{'a'}, []byte{'b'})
			case x == 0x7d:
				wantFrames(t, "an escape", plain, []byte{'a', 'b' ^ 0x20})
			case x < 32 && accm&(1<<x) != 0:
				wantFrames(t, fmt.Sprintf("byte %02X in the map", x), plain, []byte{'a', 'b'})
			default:
				wantFrames(t, fmt.Sprintf("byte %02X", x), plain, []byte{'a', byte(x), 'b'})
			}
			after := d.Feed([]byte{'a', 0x7d, byte(x), 'b', 0x7e})
			if x == 0x7e {
				wantFrames(t, "an escape ahead of a flag", after, []byte{'b'})
				wantDropped(t, "an escape ahead of a flag", d, 1)
				continue
			}
			wantFrames(t, fmt.Sprintf("byte %02X after an escape", x), after, []byte{'a', byte(x) ^ 0x20, 'b'})
			wantDropped(t, fmt.Sprintf("byte %02X", x), d, 0)
		}
	}
}

// P3.2: the greatest frame, and one byte more, of each size that matters.
func TestFeedAtMost(t *testing.T) {
	for _, most := range []int{1, 2, 1500, api.MaxFrame} {
		d := newDeframer(t, 0, most)
		l := bytes.Repeat([]byte{'a'}, most)
		wantFrames(t, "at most", d.Feed(stuff.Stuff(l, 0)), l)
		wantDropped(t, "at most", d, 0)
		for i := range 3 {
			wantFrames(t, "above", d.Feed(stuff.Stuff(append(l, 'a'), 0)))
			wantDropped(t, "above", d, i+1)
		}
		wantFrames(t, "at most, after the dropped ones", d.Feed(stuff.Stuff(l, 0)), l)
	}
}

// P3.2: an escape, a frame and what is dropped go on from one call to the next.
func TestFeedInParts(t *testing.T) {
	d := newDeframer(t, 1<<5, 3)
	for _, c := range []struct {
		in      string
		want    []string
		dropped int
	}{
		{"~a", nil, 0},
		{"", nil, 0},
		{"!", nil, 0},
		{"", nil, 0},
		{"^", nil, 0},
		{"~", []string{"a~"}, 0},
		{"b!", nil, 0},
		{"5", nil, 0}, // not ignored after the escape
		{"5c~", []string{"b%c"}, 0},
		{"ab", nil, 0},
		{"cd", nil, 0},
		{"~", nil, 1},
		{"!", nil, 1},
		{"~A~", []string{"A"}, 2},
	} {
		wantFrames(t, "Feed("+c.in+")", d.Feed(text(c.in)), framesOf(c.want)...)
		wantDropped(t, "Feed("+c.in+")", d, c.dropped)
	}
}

// P3.2: Reset forgets what has begun and takes the new map, and leaves the rest.
func TestReset(t *testing.T) {
	d := newDeframer(t, 1<<1, 3)
	wantFrames(t, "before", d.Feed(text("a!~12~ab")), text("2"))
	wantDropped(t, "before", d, 1)

	d.Reset(1 << 2)
	wantDropped(t, "Reset", d, 1)
	wantFrames(t, "the frame that had begun is gone, and the map is new", d.Feed(text("c12~")), text("c1"))
	d.Feed(text("c!"))
	d.Reset(0)
	wantFrames(t, "the escape is gone", d.Feed(text("A12~")), text("A12"))
	d.Feed(text("abcd"))
	d.Reset(0xffffffff)
	wantFrames(t, "the frame that is too long is gone", d.Feed(text("a0~")), text("a"))
	d.Feed(text("a!"))
	d.Reset(0)
	wantFrames(t, "a flag after Reset ends no frame", d.Feed(text("~")))
	wantDropped(t, "Reset drops nothing", d, 1)
	wantFrames(t, "the most bytes stay", d.Feed(text("abc~abcd~")), text("abc"))
	wantDropped(t, "the most bytes stay", d, 2)
	d.Reset(0)
	d.Reset(1)
	wantDropped(t, "Reset twice", d, 2)
	wantFrames(t, "Reset twice", d.Feed(text("0a1~")), text("a1"))
}

// P3.2 with R5: what one deframer is given says nothing of another.
func TestDeframersAreApart(t *testing.T) {
	a, b := newDeframer(t, 1, 4), newDeframer(t, 2, 2)
	a.Feed(text("a!"))
	b.Feed(text("b"))
	wantFrames(t, "the second", b.Feed(text("01~abc~")), text("b0"))
	wantFrames(t, "the first", a.Feed(text("A01~")), text("aa1"))
	wantDropped(t, "the first", a, 0)
	wantDropped(t, "the second", b, 1)
}

// P3.2 with R4: what Feed is given stays, up to its capacity, and is not kept.
func TestFeedLeavesItsArgument(t *testing.T) {
	d := newDeframer(t, 2, 8)
	whole := text("a!^~b1!]ffff")
	keep := bytes.Clone(whole)
	first := d.Feed(whole[:8])
	wantBytes(t, "the argument", whole, keep)
	for i := range whole {
		whole[i] = 'x'
	}
	wantFrames(t, "the frame handed out", first, text("a\x7e"))
	wantFrames(t, "the frame that had begun", d.Feed(text("~")), text("b\x7d"))
}

// overwrite changes the frames, up to their capacity.
func overwrite(frames ...[]byte) {
	for _, frame := range frames {
		frame = frame[:cap(frame)]
		for i := range frame {
			frame[i] = 0x7d
		}
	}
}

// P3.2 with R4: the frames are the caller's own, up to their capacity, and share no memory.
func TestFeedHandsOutNewMemory(t *testing.T) {
	d := newDeframer(t, 0, 8)
	first := d.Feed(text("ab~cde~fg"))
	wantFrames(t, "first", first, text("ab"), text("cde"))
	overwrite(first[0])
	wantBytes(t, "the second frame after the first changed", first[1], text("cde"))
	overwrite(first[1])
	second := d.Feed(text("h~ij~k"))
	wantFrames(t, "second", second, text("fgh"), text("ij"))
	overwrite(second...)
	wantFrames(t, "third", d.Feed(text("l~")), text("kl"))
}

// P3.2 with R7: a deframer that New did not make.
func TestDeframerNotMade(t *testing.T) {
	for name, d := range map[string]*stuff.Deframer{"nil": nil, "zero": {}} {
		for range 2 {
			wantFrames(t, name, d.Feed(text("~ab~!~abcd")))
			wantDropped(t, name, d, 0)
			d.Reset(5)
		}
	}
}

// P3.2 with T4: a frame that never ends takes no more memory than the longest one.
func TestFeedOfAFrameWithoutEnd(t *testing.T) {
	d := newDeframer(t, 0, api.MaxFrame)
	l := bytes.Repeat([]byte{'a'}, 1<<16)
	d.Feed(l)
	if n := testing.AllocsPerRun(10, func() { d.Feed(l) }); n != 0 {
		t.Errorf("%v allocations, want none", n)
	}
	wantFrames(t, "the end", d.Feed(text("~b~")), text("b"))
	wantDropped(t, "the end", d, 1)
}

// feedParts feeds l in parts that end at the places.
func feedParts(d *stuff.Deframer, l []byte, places ...int) [][]byte {
	var frames [][]byte
	from := 0
	for _, to := range append(places, len(l)) {
		frames = append(frames, d.Feed(l[from:to])...)
		from = to
	}
	return frames
}

// P3.2 with P3.3: any bytes, whole and divided in every way into two, byte by
// byte, and into some parts.
func TestFeedAgainstModel(t *testing.T) {
	r := rand.New(rand.NewPCG(3, 2))
	for range 300 {
		l, accm, most := randomBytes(r, r.IntN(120)), randomMap(r), 1+r.IntN(12)
		frames, dropped := modelFrames(l, accm, most)
		try := func(what string, places ...int) {
			t.Helper()
			d := newDeframer(t, accm, most)
			wantFrames(t, what, feedParts(d, l, places...), frames...)
			wantDropped(t, what, d, dropped)
		}
		try("whole")
		var each, some []int
		for i := range len(l) {
			try("two parts", i)
			each = append(each, i)
			if r.IntN(5) == 0 {
				some = append(some, i)
			}
		}
		try("byte by byte", each...)
		try("some parts", some...)
	}
}

// P3.3: a frame comes back, whatever bytes with a flag at their end went ahead,
// from a deframer that ignores no more than Stuff escaped.
func TestStuffedFrameComesBack(t *testing.T) {
	r := rand.New(rand.NewPCG(3, 3))
	for i := range 1000 {
		most := 1 + r.IntN(20)
		if i%10 == 0 {
			most = api.MaxFrame
		}
		b := randomBytes(r, 1+r.IntN(most))
		if i%3 == 0 {
			b = randomBytes(r, most)
		}
		accm := randomMap(r)
		d := newDeframer(t, accm&randomMap(r), most)
		ahead := append(randomBytes(r, r.IntN(40)), 0x7e)
		d.Feed(ahead)
		dropped := d.Dropped()
		wantFrames(t, "alone", d.Feed(stuff.Stuff(b, accm)), b)
		wantDropped(t, "alone", d, dropped)

		l := slices.Concat(ahead, stuff.Stuff(b, accm))
		d.Reset(accm)
		frames := feedParts(d, l, r.IntN(len(l)+1))
		wantFrames(t, "the last", frames[max(0, len(frames)-1):], b)
	}
}

// P3.3: all that is stuffed comes back in order; an empty list is no frame, and one too long is dropped.
func TestStuffedFramesComeBack(t *testing.T) {
	r := rand.New(rand.NewPCG(3, 4))
	for range 200 {
		most, accm := 1+r.IntN(9), randomMap(r)
		var l []byte
		var want [][]byte
		dropped := 0
		for range r.IntN(20) {
			b := randomBytes(r, r.IntN(most+3))
			l = append(l, stuff.Stuff(b, accm)...)
			switch {
			case len(b) > most:
				dropped++
			case len(b) > 0:
				want = append(want, b)
			}
		}
		d := newDeframer(t, accm, most)
		wantFrames(t, "all", d.Feed(l), want...)
		wantDropped(t, "all", d, dropped)
	}
}
