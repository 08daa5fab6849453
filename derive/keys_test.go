package derive_test

import (
	"bytes"
	"fmt"
	"math"
	"math/rand/v2"
	"testing"

	"fairlead/api"
	"fairlead/derive"
	"fairlead/rc4"
)

// P10.1 and P10.2: the chapter's examples, and keys of another program: the
// start key, the first two session keys, and the one that 2000 turns make of the first.
func TestKeysOfKnownMasters(t *testing.T) {
	for _, c := range []struct {
		master                       string
		bits                         int
		first                        bool
		start, session, next, turned string
	}{
		{"FDECE3717A8C838C B388E527AE3CDD31", 40, true, "D5F0E9521E3EA958", "D1269ED2AE999038", "D1269E772B557EC1", "D1269EA5107BBC98"},
		{"FDECE3717A8C838C B388E527AE3CDD31", 40, false, "8B7CDC149B993A1B", "D1269EC49FA62E3E", "D1269ECE4D98D181", "D1269EF979BBC5CD"},
		{"FDECE3717A8C838C B388E527AE3CDD31", 56, true, "D5F0E9521E3EA958", "D16A9BD2AE999038", "D1EF3D78B562DEA9", "D107B9522045B966"},
		{"FDECE3717A8C838C B388E527AE3CDD31", 56, false, "8B7CDC149B993A1B", "D15C00C49FA62E3E", "D16182A2AB481407", "D1E2B8EE858F2D85"},
		{"FDECE3717A8C838C B388E527AE3CDD31", 128, true, "D5F0E9521E3EA958 9645E86051C82226",
			"49D11D0F0CC6BEFB A2A9B4B688F91EEE", "0E09C108101DFDDE F6C0E2F2D95D0BAD", "6B258553A6203671 632009C04BEA0883"},
		{"FDECE3717A8C838C B388E527AE3CDD31", 128, false, "8B7CDC149B993A1B A118CB153F56DCCB",
			"405CB2247A7956E6 E211007AE27B22D4", "726F10500E2B5413 5B1B74D7682F0471", "462BD0F804EA9C19 1C6B6D0E10ECF065"},
		{"0000000000000000 0000000000000000", 40, true, "4786200DCCEC17F1", "D1269EED6A2941D8", "D1269EA2859D498E", "D1269E7CD809A536"},
		{"0000000000000000 0000000000000000", 56, false, "72B831DF4F56E98E", "D122BCAC11FA525E", "D1AF4222322670F7", "D1E52CF0BACCB736"},
		{"0000000000000000 0000000000000000", 128, true, "4786200DCCEC17F1 EEA6E75FC1FC2745",
			"AB3316CCF8FA5138 B756619246D2D3F4", "42C249E48F22BABE 25B81E87D9699125", "1CB167712A8FE8B2 BC1F92B503EBFBAD"},
		{"FFFFFFFFFFFFFFFF FFFFFFFFFFFFFFFF", 40, false, "72E743171F1C061A", "D1269E1D5D02A0A6", "D1269E7923ADC4D8", "D1269E730EE30654"},
		{"FFFFFFFFFFFFFFFF FFFFFFFFFFFFFFFF", 56, true, "2624E622234BF2FF", "D19424CC7C72F44C", "D18E0EF12DF9A2C2", "D1ADD0BCA0005FD3"},
		{"FFFFFFFFFFFFFFFF FFFFFFFFFFFFFFFF", 128, false, "72E743171F1C061A AD669E88A3DAF7E5",
			"D75845A4D6FA8313 E741089761D3BF45", "FBAD66F0B1A07926 DE965E041A41DCA0", "C97D587790959074 7A92B1054B187EF3"},
	} {
		start, err := derive.Start(unhex(t, c.master), c.bits, c.first)
		wantKey(t, fmt.Sprintf("P10.1: Start(%s, %d, %v)", c.master, c.bits, c.first), start, err, unhex(t, c.start))
		key, err := derive.First(start, c.bits)
		wantKey(t, fmt.Sprintf("P10.2: First(%X, %d)", start, c.bits), key, err, unhex(t, c.session))
		next, err := derive.Next(start, key, c.bits)
		wantKey(t, fmt.Sprintf("P10.2: Next(%X, %X, %d)", start, key, c.bits), next, err, unhex(t, c.next))
		for range 2000 {
			key, err = derive.Next(start, key, c.bits)
		}
		wantKey(t, fmt.Sprintf("P10.2: Next of %X, %d, 2000 times", start, c.bits), key, err, unhex(t, c.turned))
	}
}

// P10.2: start and session keys of zeros and of ones, by another program.
func TestNextOfPlainKeys(t *testing.T) {
	for _, c := range []struct {
		bits           int
		start, session byte
		want           string
	}{
		{40, 0x00, 0x00, "D1269E4C47C7D60B"},
		{40, 0x00, 0xff, "D1269E9B51F379E7"},
		{40, 0xff, 0x00, "D1269E5D755E320E"},
		{40, 0xff, 0xff, "D1269E6BF0179D16"},
		{56, 0x00, 0x00, "D153BC4C47C7D60B"},
		{56, 0x00, 0xff, "D108219B51F379E7"},
		{56, 0xff, 0x00, "D174EA5D755E320E"},
		{56, 0xff, 0xff, "D128636BF0179D16"},
		{128, 0x00, 0x00, "C815F99307E1F74E FBFE4CD63A844BC4"},
		{128, 0x00, 0xff, "4B28F7AB65CB3A08 6E00CED7205A5C60"},
		{128, 0xff, 0x00, "F6450A77853E91B2 EA77425561DC25E4"},
		{128, 0xff, 0xff, "0036E3E755B89C86 E9A299E2F9DA1B2A"},
	} {
		want := unhex(t, c.want)
		start, session := bytes.Repeat([]byte{c.start}, len(want)), bytes.Repeat([]byte{c.session}, len(want))
		got, err := derive.Next(start, session, c.bits)
		wantKey(t, fmt.Sprintf("P10.2: Next(%X, %X, %d)", start, session, c.bits), got, err, want)
	}
}

// P10.2: a text that RFC 3079 encrypts under the first session keys of two strengths.
func TestFirstEncryptsAPublishedText(t *testing.T) {
	master := unhex(t, "FDECE3717A8C838C B388E527AE3CDD31")
	for bits, want := range map[int]string{
		40:  "92913791 7E5803D6 68D75898",
		128: "81848317 DF688462 72FB5ABE",
	} {
		start, _ := derive.Start(master, bits, false)
		key, _ := derive.First(start, bits)
		c, err := rc4.New(key)
		wantKey(t, fmt.Sprintf("P10.2: the text under the key for %d bits", bits), c.Xor([]byte("test message")), err, unhex(t, want))
	}
}

// P10.2: keys turned many times, each from the one before it, in turn for both ways of a link.
func TestKeysTurnedManyTimes(t *testing.T) {
	r := rand.New(rand.NewPCG(10, 2))
	for _, s := range strengths() {
		master := make([]byte, 16)
		fill(r, master)
		var starts, keys [2][]byte
		for way := range starts {
			starts[way], _ = derive.Start(master, s.bits, way == 1)
			keys[way], _ = derive.First(starts[way], s.bits)
		}
		for turn := range 5000 {
			way := r.IntN(2)
			got, err := derive.Next(starts[way], keys[way], s.bits)
			wantKey(t, fmt.Sprintf("P10.2: Next(%X, %X, %d), turn %d", starts[way], keys[way], s.bits, turn), got, err, s.next(starts[way], keys[way]))
			keys[way] = got
		}
	}
}

// P10.2: what a reduced key begins with, and that its other bytes are those of the mix.
func TestReducedBytes(t *testing.T) {
	r := rand.New(rand.NewPCG(10, 3))
	for range 300 {
		start, session := make([]byte, 8), make([]byte, 8)
		fill(r, start)
		fill(r, session)
		for what, call := range map[string]func(bits int) ([]byte, api.Errno){
			"First": func(bits int) ([]byte, api.Errno) { return derive.First(start, bits) },
			"Next":  func(bits int) ([]byte, api.Errno) { return derive.Next(start, session, bits) },
		} {
			weak, err := call(40)
			more, err2 := call(56)
			if err != api.OK || err2 != api.OK || !bytes.HasPrefix(weak, []byte{0xd1, 0x26, 0x9e}) || more[0] != 0xd1 || !bytes.Equal(weak[3:], more[3:]) {
				t.Errorf("P10.2: %s of %X, %X: %X for 40 bits, %X for 56", what, start, session, weak, more)
			}
		}
	}
}

// P10.1 and P10.2: each bit of what is handed in counts.
func TestKeysOfEachBit(t *testing.T) {
	r := rand.New(rand.NewPCG(10, 4))
	for _, s := range strengths() {
		master, start, session := make([]byte, 16), make([]byte, s.size), make([]byte, s.size)
		for _, l := range [][]byte{master, start, session} {
			fill(r, l)
			for i := range 8 * len(l) {
				l[i/8] ^= 1 << (i % 8)
				got, err := derive.Start(master, s.bits, i%2 == 0)
				wantKey(t, fmt.Sprintf("P10.1: Start(%X, %d, %v)", master, s.bits, i%2 == 0), got, err, s.start(master, i%2 == 0))
				got, err = derive.First(start, s.bits)
				wantKey(t, fmt.Sprintf("P10.2: First(%X, %d)", start, s.bits), got, err, s.first(start))
				got, err = derive.Next(start, session, s.bits)
				wantKey(t, fmt.Sprintf("P10.2: Next(%X, %X, %d)", start, session, s.bits), got, err, s.next(start, session))
				l[i/8] ^= 1 << (i % 8)
			}
		}
	}
}

// numbers is the strengths and some that are none, among them those that
// a narrower number would take for one.
func numbers() []int {
	l := []int{0, 1, 8, 16, math.MinInt, math.MaxInt}
	for _, n := range []int{40, 56, 64, 104, 128} {
		l = append(l, n-1, n, n+1, -n, n+1<<8, n+1<<16, n+1<<32, n-1<<8, n+math.MinInt)
	}
	return l
}

// strengthOf is the strength of bits, with the size -1 where there is none.
func strengthOf(bits int) strength {
	for _, s := range strengths() {
		if s.bits == bits {
			return s
		}
	}
	return strength{bits: bits, size: -1}
}

// P10.1: ErrArg for each other length of a master key, and for each number that is no strength.
func TestStartOfOtherArguments(t *testing.T) {
	for _, bits := range numbers() {
		s := strengthOf(bits)
		for _, master := range lists() {
			for _, first := range []bool{true, false} {
				got, err := derive.Start(master, bits, first)
				what := fmt.Sprintf("P10.1: Start of %d bytes, %d, %v", len(master), bits, first)
				if s.size >= 0 && len(master) == 16 {
					wantKey(t, what, got, err, s.start(master, first))
				} else {
					wantError(t, what, got, err, api.ErrArg)
				}
			}
		}
	}
}

// P10.2: ErrArg for each other length of a start key, and for each number that is no strength.
func TestFirstOfOtherArguments(t *testing.T) {
	for _, bits := range numbers() {
		s := strengthOf(bits)
		for _, start := range lists() {
			got, err := derive.First(start, bits)
			what := fmt.Sprintf("P10.2: First of %d bytes, %d", len(start), bits)
			if len(start) == s.size {
				wantKey(t, what, got, err, s.first(start))
			} else {
				wantError(t, what, got, err, api.ErrArg)
			}
		}
	}
}

// P10.2: ErrArg for each other length of either key, and for each number that is no strength.
func TestNextOfOtherArguments(t *testing.T) {
	for _, bits := range numbers() {
		s := strengthOf(bits)
		for _, start := range lists() {
			for _, session := range lists() {
				got, err := derive.Next(start, session, bits)
				what := fmt.Sprintf("P10.2: Next of %d and %d bytes, %d", len(start), len(session), bits)
				if len(start) == s.size && len(session) == s.size {
					wantKey(t, what, got, err, s.next(start, session))
				} else {
					wantError(t, what, got, err, api.ErrArg)
				}
			}
		}
	}
}

// P10.1 and P10.2 with R4: one list may serve as two, nothing that is handed
// in changes, and no key changes with it.
func TestKeysKeepNoArgument(t *testing.T) {
	for _, s := range strengths() {
		b := bytes.Repeat([]byte{0x5a}, 16)
		before := bytes.Clone(b)
		key := b[:s.size]
		wantStart, wantFirst, wantNext := s.start(b, true), s.first(key), s.next(key, key)
		start, err := derive.Start(b, s.bits, true)
		session, err2 := derive.First(key, s.bits)
		next, err3 := derive.Next(key, key, s.bits)
		if !bytes.Equal(b, before) {
			t.Fatalf("R4: an argument changed: %X", b)
		}
		clear(b)
		what := fmt.Sprintf(" for %d bits, with its arguments changed later", s.bits)
		wantKey(t, "R4: Start"+what, start, err, wantStart)
		wantKey(t, "R4: First"+what, session, err2, wantFirst)
		wantKey(t, "R4: Next"+what, next, err3, wantNext)
	}
}
