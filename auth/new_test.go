package auth_test

import (
	"fmt"
	"math"
	"testing"

	"fairlead/api"
	"fairlead/auth"
)

// wantNew wants what a New function tells, and that what it made is Waiting.
func wantNew(t *testing.T, what string, e end, made bool, err, want api.Errno) {
	t.Helper()
	if err != want || made != (want == api.OK) {
		t.Errorf("P15.1: %s: made %v, %d, want %d", what, made, err, want)
		return
	}
	if made {
		wantEnd(t, "P15.1: "+what, e, auth.Waiting, nil)
	}
}

func wantNewServer(t *testing.T, name, secret string, tries, timeout int, want api.Errno) {
	t.Helper()
	s, err := auth.NewServer(name, secret, tries, timeout)
	wantNew(t, fmt.Sprintf("NewServer(%q, %q, %d, %d)", name, secret, tries, timeout), s, s != nil, err, want)
}

func wantNewClient(t *testing.T, name, secret string, want api.Errno) {
	t.Helper()
	c, err := auth.NewClient(name, secret)
	wantNew(t, fmt.Sprintf("NewClient(%q, %q)", name, secret), c, c != nil, err, want)
}

// wantBoth wants the same of both, with numbers that are right.
func wantBoth(t *testing.T, name, secret string, want api.Errno) {
	t.Helper()
	wantNewServer(t, name, secret, 1, 1000, want)
	wantNewClient(t, name, secret, want)
}

// P15.1: the bytes of a name.
func TestNames(t *testing.T) {
	for size := range 2 * api.MaxName {
		want := api.OK
		if size > 64 {
			want = api.ErrLong
		}
		for _, unit := range []string{"n", "\xff", "\\", "\x00"} {
			wantBoth(t, text(unit, size), "secret", want)
		}
		wantBoth(t, text("é", size/2)+text("e", size%2), "secret", want)
	}
}

// secrets is what chap.Hash says of some.
func secrets() map[string]api.Errno {
	return map[string]api.Errno{
		"": api.OK, "s": api.OK, "\x00": api.OK, "é\U0001f600": api.OK,
		text("s", 255): api.OK, text("s", 256): api.OK, text("s", 257): api.ErrLong, text("s", 1000): api.ErrLong,
		text("\U0001f600", 128): api.OK, text("\U0001f600", 128) + "s": api.ErrLong, text("\U0001f600", 129): api.ErrLong,
		"\xff": api.ErrForm, "s\xc3": api.ErrForm, "\xed\xa0\x80": api.ErrForm, "\xc0\x80": api.ErrForm,
		text("s", 300) + "\xff": api.ErrForm,
	}
}

// P15.1: what chap.Hash says of a secret.
func TestSecrets(t *testing.T) {
	for secret, want := range secrets() {
		wantBoth(t, "name", secret, want)
	}
}

// P15.1: the tries and the ticks of a server, at, within and beyond their bounds.
func TestTriesAndTimeouts(t *testing.T) {
	odd := []int{math.MinInt, -1 << 32, -1000, -1, 1 << 16, 1<<16 + 1, 1 << 32, 1<<32 + 1, math.MaxInt}
	for n := range 2000 {
		odd = append(odd, n)
	}
	for _, n := range odd {
		for _, m := range []int{math.MinInt, -1, 0, 1, 500, 1000, 1001, math.MaxInt} {
			want := api.ErrArg
			if n >= 1 && n <= 1000 && m >= 1 && m <= 1000 {
				want = api.OK
			}
			wantNewServer(t, "name", "secret", n, m, want)
			wantNewServer(t, "name", "secret", m, n, want)
		}
	}
}

// P15.1: one, two and three errors at once: the first one is told.
func TestTheFirstError(t *testing.T) {
	for _, long := range []bool{false, true} {
		for secret, err := range secrets() {
			for _, n := range []int{1, 0} {
				for _, m := range []int{1, 1001} {
					name := text("n", 64)
					server := err
					if server == api.OK && (n != 1 || m != 1) {
						server = api.ErrArg
					}
					client := err
					if long {
						name, server, client = text("n", 65), api.ErrLong, api.ErrLong
					}
					wantNewServer(t, name, secret, n, m, server)
					wantNewClient(t, name, secret, client)
				}
			}
		}
	}
}

// R7: what no New function made, and a nil one.
func TestWhatNoNewMade(t *testing.T) {
	for i, s := range []*auth.Server{nil, new(auth.Server)} {
		what := fmt.Sprintf("R7: server %d", i)
		for range 3 {
			wantEmpty(t, what, s.Begin(drawn(1)))
			for code := range 6 {
				for id := range 3 {
					wantIgnored(t, what, s, api.Packet{Code: code, Id: id})
				}
			}
			for id := range 3 {
				wantIgnored(t, what, s, usual().response(id))
				wantIgnored(t, what, s, exchange{make([]byte, 16), drawn(2), "", ""}.response(id))
			}
			wantEmpty(t, what, s.Tick())
			wantEnd(t, what, s, 0, nil)
		}
	}
	for i, c := range []*auth.Client{nil, new(auth.Client)} {
		what := fmt.Sprintf("R7: client %d", i)
		for range 3 {
			c.Draw(drawn(1))
			for code := range 6 {
				wantIgnored(t, what, c, api.Packet{Code: code})
				wantIgnored(t, what, c, api.Packet{Code: code, Data: []byte(" ")})
			}
			wantIgnored(t, what, c, challenge(0, drawn(1), "server"))
			wantIgnored(t, what, c, success(0, proof("", right(drawn(1), drawn(1), "", ""), drawn(1), drawn(1), "")))
			wantEnd(t, what, c, 0, nil)
		}
	}
}
