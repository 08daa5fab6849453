package auth_test

import (
	"fmt"
	"math"
	"slices"
	"strings"
	"testing"

	"fairlead/api"
	"fairlead/auth"
)

// P15.3: the client's own challenge is 16 zero bytes until 16 others are drawn.
func TestDraw(t *testing.T) {
	c := newClient(t, "client", "secret")
	want := func(what string, peer []byte) {
		t.Helper()
		x := exchange{drawn(1), peer, "client", "secret"}
		wantOut(t, "P15.3: "+what, c.Input(challenge(9, x.asked, "server")), sends(x.response(9)))
	}
	want("nothing is drawn", make([]byte, 16))
	for _, b := range otherSizes() {
		c.Draw(b)
		want("another length is drawn", make([]byte, 16))
	}
	for n := range 20 {
		c.Draw(drawn(n))
		want("16 bytes are drawn", drawn(n))
		for _, b := range [][]byte{nil, drawn(n + 1)[:15], append(drawn(n+1), 0)} {
			c.Draw(b)
			want("another length is drawn behind 16 bytes", drawn(n))
		}
	}
	c.Draw(make([]byte, 16))
	want("zero bytes are drawn", make([]byte, 16))
}

// P15.3: what is drawn behind a Response counts for the next one, and neither
// for the verdict on this one nor for the state.
func TestDrawBehindAResponse(t *testing.T) {
	for state := range states {
		c := settled(t, state)
		c.Draw(drawn(20))
		wantEnd(t, "P15.3: Draw", c, state, usual().answer())
		if state == auth.Waiting {
			wantOut(t, "P15.3: a Success behind Draw", c.Input(success(5, usual().proof())), done(auth.Out{}))
			wantEnd(t, "P15.3: a Success behind Draw", c, auth.Good, usual().answer())
		}
		x := exchange{drawn(1), drawn(20), "client", "secret"}
		wantOut(t, "P15.3: a Challenge behind Draw", c.Input(challenge(5, x.asked, "")), sends(x.response(5)))
		wantOut(t, "P15.3: the verdict on it", c.Input(success(5, x.proof())), done(auth.Out{}))
		wantEnd(t, "P15.3: the verdict on it", c, auth.Good, x.answer())
	}
}

// P15.3: names and secrets of all kinds. The name goes out as it is.
func TestNameOfAClient(t *testing.T) {
	for _, name := range []string{"", "n", `BIGCO\User`, `User\`, "\x00\xff", text("n", 63), text("\xff", 64)} {
		for _, secret := range []string{"", "s", "é\U0001f600", text("s", 256)} {
			c := newClient(t, name, secret)
			x := exchange{drawn(6), make([]byte, 16), name, secret}
			wantOut(t, "P15.3: a name", c.Input(challenge(1, x.asked, "server")), sends(x.response(1)))
			wantOut(t, "P15.3: a proof", c.Input(success(1, x.proof()+okText)), done(auth.Out{}))
			wantEnd(t, "P15.3: a proof", c, auth.Good, x.answer())
		}
	}
}

// P15.3: Challenges of all lengths and with each first byte, in every state. The
// name, whatever it is, does not count.
func TestChallenges(t *testing.T) {
	whole := challenge(8, drawn(4), text("n", 300)).Data
	x := exchange{drawn(4), drawn(2), "client", "secret"}
	for state := range states {
		what := fmt.Sprintf("P15.3: in state %d", state)
		c := settled(t, state)
		for size := range 17 {
			wantIgnored(t, what+": a short one", c, api.Packet{Code: 1, Id: 8, Data: whole[:size]})
		}
		for first := range 256 {
			other := slices.Clone(whole[:20])
			other[0] = byte(first)
			if first != 0x10 {
				wantIgnored(t, what+": another first byte", c, api.Packet{Code: 1, Id: 8, Data: other})
				wantIgnored(t, what+": another first byte", c, api.Packet{Code: 1, Id: 8, Data: other[:17]})
			}
		}
		if state == auth.Waiting {
			wantOut(t, what+": behind those", c.Input(success(5, usual().proof())), done(auth.Out{}))
		}
		for size := 17; size <= len(whole); size++ {
			c = settled(t, state)
			wantOut(t, what+": a long one", c.Input(api.Packet{Code: 1, Id: 8, Data: whole[:size]}), sends(x.response(8)))
			wantEnd(t, what+": a long one", c, auth.Waiting, nil)
			wantIgnored(t, what+": a verdict on what is ahead of it", c, success(5, usual().proof()))
			wantOut(t, what+": the verdict", c.Input(success(8, x.proof())), done(auth.Out{}))
			wantEnd(t, what+": the verdict", c, auth.Good, x.answer())
		}
		c = settled(t, state)
		wantOut(t, what+": the same again", c.Input(challenge(5, drawn(1), "server")), sends(usual().response(5)))
		wantEnd(t, what+": the same again", c, auth.Waiting, nil)
	}
	c := newClient(t, "client", "secret")
	for size := range 17 {
		wantIgnored(t, "P15.3: a short one at first", c, api.Packet{Code: 1, Id: 8, Data: whole[:size]})
	}
	x.peer = make([]byte, 16)
	wantOut(t, "P15.3: at first", c.Input(challenge(8, drawn(4), "server")), sends(x.response(8)))
}

// P15.3: the identifier of a Challenge is that of the Response, whatever it is.
func TestIdentifiersOfAClient(t *testing.T) {
	x := usual()
	c := newClient(t, x.name, x.secret)
	c.Draw(x.peer)
	for _, id := range []int{0, 1, 255, 7, 7, 256, -1, 1 << 32, math.MinInt, math.MaxInt} {
		wantOut(t, "P15.3: a Challenge", c.Input(challenge(id, x.asked, "server")), sends(x.response(id)))
		for _, other := range []int{id - 1, id + 1, id ^ 256, id ^ 1<<32} {
			wantIgnored(t, "P15.3: another identifier", c, success(other, x.proof()))
			wantIgnored(t, "P15.3: another identifier", c, failure(other, badText))
		}
		wantOut(t, "P15.3: the verdict", c.Input(success(id, x.proof())), done(auth.Out{}))
		wantEnd(t, "P15.3: the verdict", c, auth.Good, x.answer())
	}
}

// P15.3: a verdict ahead of any Response.
func TestVerdictAheadOfAResponse(t *testing.T) {
	c := newClient(t, "client", "secret")
	for _, id := range []int{-1, 0, 1, 5, 255} {
		for _, s := range []string{"", " ", okText, badText, usual().proof(), exchange{make([]byte, 16), make([]byte, 16), "client", "secret"}.proof()} {
			wantIgnored(t, "P15.3: ahead of any Response", c, success(id, s))
			wantIgnored(t, "P15.3: ahead of any Response", c, failure(id, s))
		}
	}
	wantEnd(t, "P15.3: ahead of any Response", c, auth.Waiting, nil)
}

// P15.3: verdicts with the identifier of the Response and with others, in each
// state: only those in Waiting with this one count.
func TestVerdictsInEachState(t *testing.T) {
	for state := range states {
		for id := -2; id < 260; id++ {
			for _, p := range []api.Packet{
				success(id, usual().proof()), success(id, usual().proof()+okText), success(id, "no"), failure(id, badText), failure(id, usual().proof()),
			} {
				what := fmt.Sprintf("P15.3: in state %d: %s", state, toldPacket(p))
				c := settled(t, state)
				if id != 5 || state != auth.Waiting {
					wantIgnored(t, what, c, p)
					continue
				}
				next := auth.Bad
				if p.Code == 3 && string(p.Data) != "no" {
					next = auth.Good
				}
				wantOut(t, what, c.Input(p), done(auth.Out{}))
				wantEnd(t, what, c, next, usual().answer())
			}
		}
	}
}

// P15.3: with several Responses, the verdict is that on the last one.
func TestLastResponse(t *testing.T) {
	c := responding(t)
	first := usual()
	last := exchange{drawn(7), first.peer, first.name, first.secret}
	wantOut(t, "P15.3: another Challenge", c.Input(challenge(6, last.asked, "")), sends(last.response(6)))
	wantIgnored(t, "P15.3: the first Response", c, success(5, first.proof()))
	wantIgnored(t, "P15.3: the first Response", c, success(5, last.proof()))
	wantIgnored(t, "P15.3: the first Response", c, failure(5, badText))
	wantOut(t, "P15.3: the last Response", c.Input(success(6, last.proof())), done(auth.Out{}))
	wantEnd(t, "P15.3: the last Response", c, auth.Good, last.answer())

	c.Input(challenge(5, first.asked, ""))
	c.Input(challenge(5, last.asked, ""))
	wantOut(t, "P15.3: the proof of an exchange before", c.Input(success(5, first.proof())), done(auth.Out{}))
	wantEnd(t, "P15.3: the proof of an exchange before", c, auth.Bad, nil)
}

// P15.3: what a Success has to say.
func TestTextOfASuccess(t *testing.T) {
	good := usual().proof()
	if len(good) != 42 {
		t.Fatalf("the proof has %d bytes", len(good))
	}
	want := func(s string, state int) {
		t.Helper()
		c := responding(t)
		wantOut(t, fmt.Sprintf("P15.3: %q", s), c.Input(success(5, s)), done(auth.Out{}))
		wantEnd(t, fmt.Sprintf("P15.3: %q", s), c, state, usual().answer())
	}
	for _, more := range []string{"", " ", "  ", " M=ok", " M=", " x\x00\xff", " " + good, " " + text("m", 2000)} {
		want(good+more, auth.Good)
		want(" "+good+more, auth.Bad)
		want("x"+good+more, auth.Bad)
		want(strings.ToLower(good)+more, auth.Bad)
	}
	for sign := range 256 {
		for _, more := range []string{"", " M=ok", "M=ok"} {
			if sign != ' ' {
				want(good+string([]byte{byte(sign)})+more, auth.Bad)
			}
		}
	}
	for size := range good {
		want(good[:size], auth.Bad)
		want(good[:size]+" ", auth.Bad)
		want(good[:size]+" M=ok", auth.Bad)
		want(good[:size]+good[size+1:], auth.Bad)
		for _, turned := range []byte{1, 0x20, 0x80} {
			other := []byte(good)
			other[size] ^= turned
			want(string(other), auth.Bad)
			want(string(other)+" M=ok", auth.Bad)
		}
	}
	for _, s := range []string{"M=ok", badText, exampleText, "S=" + text("0", 40), good + "\u00a0M=ok", good[:41] + "\x00"} {
		want(s, auth.Bad)
	}
	for _, x := range []exchange{
		{drawn(9), drawn(2), "client", "secret"}, {drawn(1), drawn(9), "client", "secret"},
		{drawn(1), drawn(2), "server", "secret"}, {drawn(1), drawn(2), "client", "Secret"},
	} {
		want(x.proof(), auth.Bad)
		want(x.proof()+okText, auth.Bad)
	}
}

// P15.3: a Failure is one whatever it says.
func TestTextOfAFailure(t *testing.T) {
	for _, s := range []string{"", badText, "E=648 R=1 V=3", usual().proof(), usual().proof() + okText, "\x00\xff", text("m", 2000)} {
		c := responding(t)
		wantOut(t, "P15.3: a Failure", c.Input(failure(5, s)), done(auth.Out{}))
		wantEnd(t, "P15.3: a Failure", c, auth.Bad, nil)
		wantIgnored(t, "P15.3: a Success behind it", c, success(5, usual().proof()))
	}
}

// P15.3: packets of every other code, in each state.
func TestOtherCodesAtAClient(t *testing.T) {
	for state := range states {
		c := settled(t, state)
		codes := []int{math.MinInt, 257, 259, 260, -255, -253, 1<<32 + 1, 1<<32 + 3, math.MaxInt}
		for code := -2; code < 300; code++ {
			if code != 1 && code != 3 && code != 4 {
				codes = append(codes, code)
			}
		}
		for _, code := range codes {
			for _, data := range [][]byte{nil, challenge(5, drawn(1), "server").Data, []byte(usual().proof()), usual().response(5).Data} {
				wantIgnored(t, "P15.3: another code", c, api.Packet{Code: code, Id: 5, Data: data})
			}
		}
		if state == auth.Waiting {
			wantOut(t, "P15.3: behind those", c.Input(success(5, usual().proof())), done(auth.Out{}))
		}
		wantOut(t, "P15.3: behind those", c.Input(challenge(6, drawn(1), "")), sends(usual().response(6)))
	}
}
