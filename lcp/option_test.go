package lcp_test

import (
	"bytes"
	"fmt"
	"math"
	"math/rand/v2"
	"slices"
	"testing"

	"fairlead/api"
	"fairlead/lcp"
	"fairlead/nego"
	"fairlead/packet"
)

func wantAsk(t *testing.T, what string, c api.Config, drawn uint32, want ...api.Option) {
	t.Helper()
	wantOptions(t, "P14.2: Ask: "+what, lcp.Ask(c, drawn), want)
}

// P14.2: each option alone, with the numbers at and beside the one that is left
// out, and the chapter's example.
func TestAskForOne(t *testing.T) {
	wantAsk(t, "nothing", config(), 0)
	for _, n := range []int{64, 65, 255, 256, 1000, 1498, 1499, 1501} {
		wantAsk(t, "Mru", changed(func(c *api.Config) { c.Mru = n }), 0, mru(n))
	}
	for _, n := range []uint32{0, 1, 0x12345678, 0x80000000, 0x7fffffff, 0xfffffffe} {
		wantAsk(t, "Accm", changed(func(c *api.Config) { c.Accm = n }), 0, accm(n))
	}
	for _, n := range []uint32{1, 2, 0x12345678, 0x80000000, 0x7fffffff, 0xfffffffe, 0xffffffff} {
		wantAsk(t, "Magic", config(), n, magic(n))
	}
	for _, n := range []int{1, 63, 64, 65, 255, 256, 1000, 1499, 1500, 1501} {
		wantAsk(t, "Mrru", changed(func(c *api.Config) { c.Mrru = n }), 0, mrru(n))
		wantAsk(t, "Mrru and Short", changed(func(c *api.Config) { c.Mrru, c.Short = n, true }), 0, mrru(n), short())
	}
	wantAsk(t, "Server", changed(func(c *api.Config) { c.Server = true }), 0, auth())
	wantAsk(t, "Pfc", changed(func(c *api.Config) { c.Pfc = true }), 0, pfc())
	wantAsk(t, "Acfc", changed(func(c *api.Config) { c.Acfc = true }), 0, acfc())
	wantAsk(t, "Short without Mrru", changed(func(c *api.Config) { c.Short = true }), 0)
	wantAsk(t, "the chapter's example", api.Config{Server: true, Mru: 1500}, 7, opt(2, 0, 0, 0, 0), opt(3, 0xc2, 0x23, 0x81), opt(5, 0, 0, 0, 7))
}

// P14.2: what Ask and Rules have no use for.
func TestWhatIsNotAskedFor(t *testing.T) {
	other := func(c api.Config) api.Config {
		c.Name, c.Secret, c.Bits, c.Stateless, c.Mppc, c.Deflate, c.Must, c.Symbol = "other", "\xff", 77, true, true, true, true, true
		c.Timeout, c.Tries, c.Fragment = 0, -1, 99
		return c
	}
	for _, c := range []api.Config{config(), full(true), full(false)} {
		wantAsk(t, "other fields", other(c), 9, lcp.Ask(c, 9)...)
		wantRules(t, "other fields", lcp.Rules(other(c)), lcp.Rules(c))
	}
}

// P14.2: any of the options together, in their order, and what is allowed.
func TestAskForSome(t *testing.T) {
	for set := range 1 << 8 {
		has := func(k int) bool { return set>>k&1 != 0 }
		c, drawn := config(), uint32(0)
		var want []api.Option
		add := func(k int, o api.Option, change func()) {
			if has(k) {
				change()
				want = append(want, o)
			}
		}
		add(0, mru(1499), func() { c.Mru = 1499 })
		add(1, accm(0xa0000), func() { c.Accm = 0xa0000 })
		add(2, auth(), func() { c.Server = true })
		add(3, magic(0xfffefdfc), func() { drawn = 0xfffefdfc })
		add(4, pfc(), func() { c.Pfc = true })
		add(5, acfc(), func() { c.Acfc = true })
		add(6, mrru(1500), func() { c.Mrru = 1500 })
		c.Short = has(7)
		if has(6) && has(7) {
			want = append(want, short())
		}
		wantAsk(t, fmt.Sprintf("set %b", set), c, drawn, want...)
		wantRules(t, fmt.Sprintf("set %b", set), lcp.Rules(c), rulesOf(c.Server, c.Pfc, c.Acfc, c.Mrru != 0))
	}
}

// rulesOf is the chapter's rules, one by one.
func rulesOf(server, withPfc, withAcfc, multi bool) []nego.Rule {
	l := []nego.Rule{{Type: 1, Len: 2, How: nego.Range, Lo: 64, Hi: 1500}, {Type: 2, Len: 4, How: nego.Any}}
	if !server {
		l = append(l, nego.Rule{Type: 3, Len: 3, How: nego.Exact, Want: []byte{0xc2, 0x23, 0x81}, Need: true})
	}
	l = append(l, nego.Rule{Type: 5, Len: 4, How: nego.Any})
	if withPfc {
		l = append(l, nego.Rule{Type: 7, How: nego.Any})
	}
	if withAcfc {
		l = append(l, nego.Rule{Type: 8, How: nego.Any})
	}
	if multi {
		l = append(l, nego.Rule{Type: 17, Len: 2, How: nego.Range, Lo: 64, Hi: 1500}, nego.Rule{Type: 18, How: nego.Any})
	}
	return l
}

func wantRules(t *testing.T, what string, got, want []nego.Rule) {
	t.Helper()
	same := slices.EqualFunc(got, want, func(a, b nego.Rule) bool {
		return bytes.Equal(a.Want, b.Want) && a.Type == b.Type && a.Len == b.Len && a.How == b.How && a.Lo == b.Lo && a.Hi == b.Hi && a.Need == b.Need
	})
	if !same {
		t.Errorf("P14.2: Rules: %s: %+v, want %+v", what, got, want)
	}
}

// P14.2: what the rules say of each option, as nego judges by them.
func TestWhatIsAllowed(t *testing.T) {
	for _, x := range []struct {
		what   string
		c      api.Config
		asked  []api.Option
		code   int
		answer []api.Option
	}{
		{"all, of a server", full(true), list(mru(1500), accm(1), magic(9), pfc(), acfc(), mrru(64), short()), api.ConfAck,
			list(mru(1500), accm(1), magic(9), pfc(), acfc(), mrru(64), short())},
		{"all, of a client", full(false), list(mru(64), accm(1), auth(), magic(9), pfc(), acfc(), mrru(1500), short()), api.ConfAck,
			list(mru(64), accm(1), auth(), magic(9), pfc(), acfc(), mrru(1500), short())},
		{"a proof, of a server", full(true), list(auth()), api.ConfRej, list(auth())},
		{"no proof, of a client", full(false), nil, api.ConfNak, list(auth())},
		{"another proof, of a client", full(false), list(opt(3, 0xc0, 0x23)), api.ConfNak, list(auth())},
		{"nothing, of a server", full(true), nil, api.ConfAck, nil},
		{"numbers that are too small", full(true), list(mru(63), mrru(63)), api.ConfNak, list(mru(64), mrru(64))},
		{"numbers that are too great", full(true), list(mru(1501), mrru(0xffff)), api.ConfNak, list(mru(1500), mrru(1500))},
		{"another size of what is free", full(true), list(opt(2, 1), opt(5, 1), opt(7, 1), opt(8, 1), opt(18, 1)), api.ConfRej,
			list(opt(2, 1), opt(5, 1), opt(7, 1), opt(8, 1), opt(18, 1))},
		{"what is not asked for either", changed(func(c *api.Config) { c.Server = true }), list(pfc(), acfc(), mrru(1500), short()), api.ConfRej,
			list(pfc(), acfc(), mrru(1500), short())},
	} {
		code, answer := nego.Judge(lcp.Rules(x.c), x.asked, false)
		if code != x.code {
			t.Errorf("P14.2: Rules: %s: code %d, want %d", x.what, code, x.code)
		}
		wantOptions(t, "P14.2: Rules: "+x.what, answer, x.answer)
	}
}

// P14.2, R1: configurations that Check refuses.
func TestAskOfWrongConfigurations(t *testing.T) {
	for _, n := range []int{math.MinInt, -1, 0, 65535, 65536, 1<<16 + 1500, math.MaxInt} {
		c := config()
		c.Mru, c.Mrru = n, n
		want := list(mru(n))
		if n != 0 {
			want = append(want, mrru(n))
		}
		wantAsk(t, fmt.Sprintf("Mru and Mrru are %d", n), c, 0, want...)
		wantRules(t, fmt.Sprintf("Mru and Mrru are %d", n), lcp.Rules(c), rulesOf(false, false, false, n != 0))
	}
}

func wantRead(t *testing.T, what string, want lcp.Values, l ...api.Option) {
	t.Helper()
	wantValues(t, "P14.2: Read: "+what+" "+toldOptions(l), lcp.Read(l), want)
}

// stating is the usual values with a change.
func stating(change func(v *lcp.Values)) lcp.Values {
	v := usual()
	change(&v)
	return v
}

// The values of each option, with the data that it states them by.
func statements() []struct {
	option api.Option
	want   lcp.Values
} {
	return []struct {
		option api.Option
		want   lcp.Values
	}{
		{mru(0), stating(func(v *lcp.Values) { v.Mru = 0 })},
		{mru(1499), stating(func(v *lcp.Values) { v.Mru = 1499 })},
		{mru(0xfffe), stating(func(v *lcp.Values) { v.Mru = 0xfffe })},
		{accm(0), stating(func(v *lcp.Values) { v.Accm = 0 })},
		{accm(0x01020304), stating(func(v *lcp.Values) { v.Accm = 0x01020304 })},
		{accm(0xfffffffe), stating(func(v *lcp.Values) { v.Accm = 0xfffffffe })},
		{auth(), stating(func(v *lcp.Values) { v.Auth = true })},
		{magic(0), usual()},
		{magic(0x80000001), stating(func(v *lcp.Values) { v.Magic = 0x80000001 })},
		{magic(0xffffffff), stating(func(v *lcp.Values) { v.Magic = 0xffffffff })},
		{pfc(), stating(func(v *lcp.Values) { v.Pfc = true })},
		{acfc(), stating(func(v *lcp.Values) { v.Acfc = true })},
		{mrru(1), stating(func(v *lcp.Values) { v.Mrru = 1 })},
		{mrru(1500), stating(func(v *lcp.Values) { v.Mrru = 1500 })},
		{mrru(0xffff), stating(func(v *lcp.Values) { v.Mrru = 0xffff })},
		{short(), stating(func(v *lcp.Values) { v.Short = true })},
	}
}

// P14.2: each option, with a byte more and a byte fewer, and with the right one
// ahead of it and behind it.
func TestReadOfOne(t *testing.T) {
	wantRead(t, "nothing", usual())
	for _, x := range statements() {
		wantRead(t, "one", x.want, x.option)
		o := x.option
		for size := range 8 {
			if size == len(o.Data) {
				continue
			}
			other := opt(o.Type, slices.Concat(o.Data, []byte{1, 2, 3, 4, 5, 6, 7})[:size]...)
			wantRead(t, "another size", usual(), other)
			wantRead(t, "another size behind the right one", x.want, o, other)
			wantRead(t, "another size ahead of the right one", x.want, other, o)
		}
	}
	for at := range 3 {
		for bit := range 8 {
			other := auth()
			other.Data[at] ^= 1 << bit
			wantRead(t, "another proof", usual(), other)
			wantRead(t, "another proof behind the right one", stating(func(v *lcp.Values) { v.Auth = true }), auth(), other)
			wantRead(t, "another proof ahead of the right one", stating(func(v *lcp.Values) { v.Auth = true }), other, auth())
		}
	}
}

// P14.2: a type that comes several times.
func TestReadOfSeveral(t *testing.T) {
	for _, x := range statements() {
		for _, y := range statements() {
			if x.option.Type == y.option.Type {
				wantRead(t, "twice", y.want, x.option, y.option)
				wantRead(t, "three times", x.want, x.option, y.option, x.option)
				wantRead(t, "twice, and others between", stating(func(v *lcp.Values) { *v = y.want }), x.option, opt(99, 1, 2, 3, 4), y.option, opt(0))
			}
		}
	}
	wantRead(t, "all", lcp.Values{Mru: 1, Mrru: 2, Accm: 3, Auth: true, Pfc: true, Acfc: true, Short: true, Magic: 4},
		mru(1), accm(3), auth(), magic(4), pfc(), acfc(), mrru(2), short())
	wantRead(t, "all, the other way round", lcp.Values{Mru: 1, Mrru: 2, Accm: 3, Auth: true, Pfc: true, Acfc: true, Short: true, Magic: 4},
		short(), mrru(2), acfc(), pfc(), magic(4), auth(), accm(3), mru(1))
}

// P14.2: types that there are not.
func TestReadOfOthers(t *testing.T) {
	known := []int{1, 2, 3, 5, 7, 8, 17, 18}
	for kind := -300; kind < 600; kind++ {
		for size := range 6 {
			if !slices.Contains(known, kind) {
				wantRead(t, "a type that there is not", usual(), opt(kind, []byte{0xc2, 0x23, 0x81, 4, 5}[:size]...))
			}
		}
	}
	for _, kind := range []int{math.MinInt, 1<<32 + 1, 1<<8 + 7, math.MaxInt} {
		wantRead(t, "a type that there is not", usual(), opt(kind), opt(kind, 1, 2), opt(kind, 1, 2, 3, 4))
	}
}

// modelRead is the chapter's words about Read.
func modelRead(l []api.Option) lcp.Values {
	last := map[int][]byte{}
	for _, o := range l {
		size, known := map[int]int{1: 2, 2: 4, 3: 3, 5: 4, 7: 0, 8: 0, 17: 2, 18: 0}[o.Type]
		if known && len(o.Data) == size && (o.Type != 3 || string(o.Data) == "\xc2\x23\x81") {
			last[o.Type] = o.Data
		}
	}
	at := func(kind, k, without int) uint32 {
		b, ok := last[kind]
		if !ok {
			return uint32(without)
		}
		return uint32(b[k])
	}
	has := func(kind int) bool { _, ok := last[kind]; return ok }
	return lcp.Values{
		Mru:  int(at(1, 0, 5)*256 + at(1, 1, 0xdc)),
		Mrru: int(at(17, 0, 0)*256 + at(17, 1, 0)),
		Accm: at(2, 0, 255)*0x1000000 + at(2, 1, 255)*0x10000 + at(2, 2, 255)*256 + at(2, 3, 255),
		Auth: has(3), Pfc: has(7), Acfc: has(8), Short: has(18),
		Magic: at(5, 0, 0)*0x1000000 + at(5, 1, 0)*0x10000 + at(5, 2, 0)*256 + at(5, 3, 0),
	}
}

// anyOption draws an option, more often one of a type that there is and of the
// size that it has.
func anyOption(r *rand.Rand) api.Option {
	l := list(mru(r.IntN(1<<16)), mru(64+r.IntN(1437)), accm(r.Uint32()), auth(), magic(r.Uint32N(4)), magic(r.Uint32()), pfc(), acfc(),
		mrru(r.IntN(1<<16)), mrru(64+r.IntN(1437)), short(), opt(r.IntN(24)), opt(r.IntN(24), 1))
	o := l[r.IntN(len(l))]
	switch r.IntN(10) {
	case 0:
		o.Data = append(o.Data, byte(r.IntN(256)))
	case 1:
		o.Data = o.Data[:r.IntN(len(o.Data)+1)]
	case 2:
		if len(o.Data) > 0 {
			o.Data[r.IntN(len(o.Data))] ^= 1 << r.IntN(8)
		}
	}
	return o
}

func anyOptions(r *rand.Rand) []api.Option {
	var l []api.Option
	for range r.IntN(6) {
		l = append(l, anyOption(r))
	}
	return l
}

// P14.2: lists of any options against the words.
func TestReadOfAny(t *testing.T) {
	r := rand.New(rand.NewPCG(14, 1))
	for range 50000 {
		l := anyOptions(r)
		wantRead(t, "any options", modelRead(l), l...)
	}
}

// P14.2: Read of what Ask asks for is what the configuration says.
func TestReadOfAsk(t *testing.T) {
	r := rand.New(rand.NewPCG(14, 2))
	for range 2000 {
		c, drawn := anyConfig(r), r.Uint32N(3)
		want := lcp.Values{Mru: c.Mru, Mrru: c.Mrru, Accm: c.Accm, Auth: c.Server, Pfc: c.Pfc, Acfc: c.Acfc, Short: c.Short && c.Mrru != 0, Magic: drawn}
		wantRead(t, "what is asked for", want, lcp.Ask(c, drawn)...)
	}
}

// anyConfig draws a configuration that Check takes.
func anyConfig(r *rand.Rand) api.Config {
	c := config()
	c.Timeout, c.Tries = 1+r.IntN(3), 1+r.IntN(4)
	c.Server, c.Pfc, c.Acfc, c.Short = r.IntN(2) == 0, r.IntN(2) == 0, r.IntN(2) == 0, r.IntN(2) == 0
	if r.IntN(2) == 0 {
		c.Mru = 64 + r.IntN(1437)
	}
	if r.IntN(2) == 0 {
		c.Accm = r.Uint32()
	}
	if r.IntN(2) == 0 {
		c.Mrru = 64 + r.IntN(1437)
	}
	return c
}

// R4: neither function hands out what it or another call hands out, and Read
// leaves what it is given as it is.
func TestOptionsShareNothing(t *testing.T) {
	c := full(false)
	c.Server = true
	asked, rules := lcp.Ask(c, 9), lcp.Rules(full(false))
	for i, o := range asked {
		scribble(o.Data)
		asked[i].Type = 99
		for k, other := range lcp.Ask(c, 9) {
			if k > i && !bytes.Equal(other.Data, asked[k].Data) {
				t.Errorf("R4: options %d and %d share memory", i, k)
			}
		}
	}
	for i := range rules {
		scribble(rules[i].Want)
		rules[i] = nego.Rule{}
	}
	wantAsk(t, "behind a change of what was handed out", c, 9, mru(1000), accm(0), auth(), magic(9), pfc(), acfc(), mrru(900), short())
	wantRules(t, "behind a change of what was handed out", lcp.Rules(full(false)), rulesOf(false, true, true, true))

	given := lcp.Ask(c, 9)
	for i := range given {
		given[i].Data = roomy(given[i].Data)
	}
	before, rooms := fmt.Sprint(given), [][]byte{}
	for _, o := range given {
		rooms = append(rooms, slices.Clone(o.Data[:cap(o.Data)]))
	}
	lcp.Read(given)
	if fmt.Sprint(given) != before {
		t.Errorf("R4: Read made %v of %s", given, before)
	}
	for i, room := range rooms {
		if !bytes.Equal(given[i].Data[:cap(given[i].Data)], room) {
			t.Errorf("R4: Read wrote behind option %d", i)
		}
	}
	if !packet.Same(given, lcp.Ask(c, 9)) {
		t.Errorf("R4: Read made %v of what Ask asks for", given)
	}
}
