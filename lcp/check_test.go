package lcp_test

import (
	"fmt"
	"math"
	"strings"
	"testing"

	"fairlead/api"
	"fairlead/lcp"
)

func wantCheck(t *testing.T, what string, c api.Config, want api.Errno) {
	t.Helper()
	if got := lcp.Check(c); got != want {
		t.Errorf("P14.1: %s: %d, want %d", what, got, want)
	}
}

// changed is a configuration of which all is right, with changes.
func changed(changes ...func(c *api.Config)) api.Config {
	c := config()
	for _, change := range changes {
		change(&c)
	}
	return c
}

// P14.1: what is free, by itself and all at once.
func TestRightConfigurations(t *testing.T) {
	wantCheck(t, "all is right", config(), api.OK)
	wantCheck(t, "everything is asked for", full(true), api.OK)
	wantCheck(t, "everything is asked for, and there is no server", full(false), api.OK)
	all := full(true)
	all.Bits, all.Stateless, all.Mppc, all.Deflate, all.Must, all.Symbol, all.Fragment = 128, true, true, true, true, true, 100
	wantCheck(t, "everything", all, api.OK)
	for i, change := range []func(c *api.Config){
		func(c *api.Config) { c.Server = true }, func(c *api.Config) { c.Pfc = true }, func(c *api.Config) { c.Acfc = true },
		func(c *api.Config) { c.Short = true }, func(c *api.Config) { c.Mppc = true }, func(c *api.Config) { c.Deflate = true },
		func(c *api.Config) { c.Accm = 0 }, func(c *api.Config) { c.Accm = 1 }, func(c *api.Config) { c.Accm = 0x80000000 },
		func(c *api.Config) { c.Name = "" }, func(c *api.Config) { c.Secret = "" }, func(c *api.Config) { c.Name = "\xff\xfe" },
	} {
		wantCheck(t, fmt.Sprintf("what is free, %d", i), changed(change), api.OK)
	}
}

// P14.1: the bytes of a name, and what chap says of a secret.
func TestCheckOfTexts(t *testing.T) {
	for size := range 2 * api.MaxName {
		want := api.OK
		if size > 64 {
			want = api.ErrLong
		}
		for _, unit := range []string{"n", "\xff", "\\", "\x00"} {
			wantCheck(t, fmt.Sprintf("a name of %d bytes %q", size, unit), changed(func(c *api.Config) { c.Name = strings.Repeat(unit, size) }), want)
		}
		name := strings.Repeat("é", size/2) + strings.Repeat("e", size%2)
		wantCheck(t, fmt.Sprintf("a name of %d bytes in é", size), changed(func(c *api.Config) { c.Name = name }), want)
	}
	long := strings.Repeat("s", 256)
	for _, x := range []struct {
		what, secret string
		want         api.Errno
	}{
		{"one unit", "s", api.OK}, {"255 units", long[1:], api.OK}, {"256 units", long, api.OK}, {"257 units", long + "s", api.ErrLong},
		{"256 units of two bytes", strings.Repeat("é", 256), api.OK}, {"257 units of two bytes", strings.Repeat("é", 257), api.ErrLong},
		{"128 code points of two units", strings.Repeat("\U0001f600", 128), api.OK},
		{"128 code points of two units and one", strings.Repeat("\U0001f600", 128) + "s", api.ErrLong},
		{"129 code points of two units", strings.Repeat("\U0001f600", 129), api.ErrLong},
		{"no UTF-8", "\xff", api.ErrForm}, {"half a code point", "s\xc3", api.ErrForm}, {"a surrogate", "\xed\xa0\x80", api.ErrForm},
		{"no UTF-8 behind 256 units", long + "\xff", api.ErrForm}, {"no UTF-8 behind 300 units", long + long[:44] + "\xff", api.ErrForm},
	} {
		wantCheck(t, "a secret, "+x.what, changed(func(c *api.Config) { c.Secret = x.secret }), x.want)
	}
}

// P14.1: each number at, within and beyond its bounds.
func TestCheckOfNumbers(t *testing.T) {
	odd := []int{math.MinInt, -1 << 32, -1000, -64, -1, 1 << 16, 1<<16 + 100, 1 << 32, 1<<32 + 1, 1<<32 + 100, math.MaxInt}
	for n := range 2000 {
		odd = append(odd, n)
	}
	from := func(n, least, most int) bool { return least <= n && n <= most }
	for _, n := range odd {
		for _, x := range []struct {
			what  string
			set   func(c *api.Config)
			right bool
		}{
			{"Mru", func(c *api.Config) { c.Mru = n }, from(n, 64, 1500)},
			{"Mrru", func(c *api.Config) { c.Mrru = n }, n == 0 || from(n, 64, 1500)},
			{"Bits", func(c *api.Config) { c.Bits = n }, n == 0 || n == 40 || n == 56 || n == 128},
			{"Bits, with Must", func(c *api.Config) { c.Bits, c.Must = n, true }, n == 40 || n == 56 || n == 128},
			{"Timeout", func(c *api.Config) { c.Timeout = n }, from(n, 1, 1000)},
			{"Tries", func(c *api.Config) { c.Tries = n }, from(n, 1, 1000)},
			{"Fragment, with the greatest Mrru", func(c *api.Config) { c.Fragment, c.Mrru = n, 1500 }, n == 0 || from(n, 16, 1500)},
			{"Fragment, with the least Mrru", func(c *api.Config) { c.Fragment, c.Mrru = n, 64 }, n == 0 || from(n, 16, 1500)},
			{"Fragment, without Mrru", func(c *api.Config) { c.Fragment = n }, n == 0},
		} {
			want := api.ErrArg
			if x.right {
				want = api.OK
			}
			wantCheck(t, fmt.Sprintf("%s is %d", x.what, n), changed(x.set), want)
		}
	}
}

// P14.1: Must, Stateless and Symbol, each by itself and together, with and
// without Bits.
func TestCheckOfCiphers(t *testing.T) {
	for set := range 8 {
		for _, bits := range []int{0, 40, 56, 128} {
			c := config()
			c.Bits, c.Must, c.Stateless, c.Symbol = bits, set&1 != 0, set&2 != 0, set&4 != 0
			want := api.OK
			if set != 0 && bits == 0 {
				want = api.ErrArg
			}
			wantCheck(t, fmt.Sprintf("Bits %d, Must %v, Stateless %v, Symbol %v", bits, c.Must, c.Stateless, c.Symbol), c, want)
		}
	}
}

// wrong is what makes a configuration wrong, in the order of the errors.
func wrong() []struct {
	set  func(c *api.Config)
	want api.Errno
} {
	return []struct {
		set  func(c *api.Config)
		want api.Errno
	}{
		{func(c *api.Config) { c.Name = strings.Repeat("n", 65) }, api.ErrLong},
		{func(c *api.Config) { c.Secret += "\xff" }, api.ErrForm},
		{func(c *api.Config) { c.Secret = strings.Repeat("s", 257) + c.Secret }, api.ErrLong},
		{func(c *api.Config) { c.Mru = 63 }, api.ErrArg},
		{func(c *api.Config) { c.Mru = 1501 }, api.ErrArg},
		{func(c *api.Config) { c.Mrru = 63 }, api.ErrArg},
		{func(c *api.Config) { c.Mrru = -1 }, api.ErrArg},
		{func(c *api.Config) { c.Bits = 41 }, api.ErrArg},
		{func(c *api.Config) { c.Timeout = 0 }, api.ErrArg},
		{func(c *api.Config) { c.Tries = 1001 }, api.ErrArg},
		{func(c *api.Config) { c.Fragment = 15 }, api.ErrArg},
		{func(c *api.Config) { c.Fragment = 16 }, api.ErrArg},
		{func(c *api.Config) { c.Must = true }, api.ErrArg},
		{func(c *api.Config) { c.Stateless = true }, api.ErrArg},
		{func(c *api.Config) { c.Symbol = true }, api.ErrArg},
	}
}

// P14.1: one, two and three errors: the first one is told. New tells the same,
// with nothing else (P14.3).
func TestTheFirstError(t *testing.T) {
	l := wrong()
	for i := range l {
		for j := range l {
			for k := range l {
				c := changed(l[i].set, l[j].set, l[k].set)
				want := l[min(i, j, k)].want
				what := fmt.Sprintf("errors %d, %d and %d", i, j, k)
				wantCheck(t, what, c, want)
				if got, err := lcp.New(c, 7); got != nil || err != want {
					t.Errorf("P14.3: New, %s: %v, %d, want %d", what, got, err, want)
				}
			}
		}
	}
}
