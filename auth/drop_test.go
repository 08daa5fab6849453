package auth

import (
	"errors"
	"testing"

	"fairlead/api"
	"fairlead/fault"
)

// wantReason wants that a packet is ignored for a reason, which is found in the
// error, and that it is ignored, too.
func wantReason(t *testing.T, what string, err error, want api.Errno) {
	t.Helper()
	if !errors.Is(err, fault.Dropped) || !errors.Is(err, want) {
		t.Errorf("%s: %v, want %v", what, err, want)
		return
	}
	if want := "auth: dropped: " + want.Error(); err.Error() != want {
		t.Errorf("%s: %q, want %q", what, err, want)
	}
}

// sized is a Response's Data that is right but for its answer.
func sized(size int) []byte {
	b := make([]byte, size)
	b[0] = valueSize
	return b
}

// P15.2: why a server ignores a packet.
func TestReasonsOfAServer(t *testing.T) {
	s, _ := NewServer("server", "secret", 1, 1)
	accept := func(code, id int, data []byte) error {
		t.Helper()
		r, err := s.accept(api.Packet{Code: code, Id: id, Data: data})
		if err != nil && (r.peer != nil || r.answer != nil || r.name != "") {
			t.Errorf("P15.2: %v beside %v", err, r)
		}
		return err
	}
	flagged := sized(50)
	flagged[49] = 1
	wantReason(t, "P15.2: ahead of Begin", accept(Response, 0, sized(50)), api.ErrState)
	s.Begin(make([]byte, drawnSize))
	wantReason(t, "P15.2: a Challenge", accept(Challenge, 1, sized(50)), api.ErrArg)
	wantReason(t, "P15.2: another identifier", accept(Response, 0, sized(50)), api.ErrOld)
	wantReason(t, "P15.2: 49 bytes", accept(Response, 1, sized(49)), api.ErrShort)
	wantReason(t, "P15.2: another first byte", accept(Response, 1, make([]byte, 50)), api.ErrForm)
	wantReason(t, "P15.2: the single zero byte", accept(Response, 1, flagged), api.ErrForm)
	wantReason(t, "P15.2: a long name", accept(Response, 1, sized(115)), api.ErrLong)
	if err := accept(Response, 1, sized(114)); err != nil {
		t.Errorf("P15.2: a Response: %v", err)
	}
	s.Input(api.Packet{Code: Response, Id: 1, Data: sized(114)})
	wantReason(t, "P15.2: another one behind what was judged", accept(Response, 1, sized(113)), api.ErrState)
	if err := accept(Response, 1, sized(114)); err != nil {
		t.Errorf("P15.2: what was judged: %v", err)
	}
}

// P15.3: why a client ignores a packet.
func TestReasonsOfAClient(t *testing.T) {
	c, _ := NewClient("client", "secret")
	accept := func(code, id int, data []byte) error {
		_, err := c.accept(api.Packet{Code: code, Id: id, Data: data})
		return err
	}
	asked := make([]byte, 17)
	wantReason(t, "P15.3: a Success at first", accept(Success, 0, nil), api.ErrState)
	wantReason(t, "P15.3: a Response", accept(Response, 0, sized(50)), api.ErrArg)
	wantReason(t, "P15.3: 16 bytes", accept(Challenge, 1, asked[:16]), api.ErrShort)
	wantReason(t, "P15.3: another first byte", accept(Challenge, 1, asked), api.ErrForm)
	asked[0] = drawnSize
	c.Input(api.Packet{Code: Challenge, Id: 1, Data: asked})
	wantReason(t, "P15.3: another identifier", accept(Failure, 0, nil), api.ErrOld)
	if err := accept(Failure, 1, nil); err != nil {
		t.Errorf("P15.3: a Failure: %v", err)
	}
	c.Input(api.Packet{Code: Failure, Id: 1})
	wantReason(t, "P15.3: behind the verdict", accept(Success, 1, nil), api.ErrState)
}
