package nego

import (
	"errors"
	"testing"

	"fairlead/api"
	"fairlead/fault"
	"fairlead/packet"
)

func started(t *testing.T) *Nego {
	t.Helper()
	n, err := New(nil, []api.Option{{Type: 1}}, 5, 5)
	if err != api.OK {
		t.Fatal(err)
	}
	n.Do(api.Open)
	return n
}

// P13.4: whatever the reason is for which a packet is dropped, it is found in
// the error, and that the packet is dropped, too.
func TestReasons(t *testing.T) {
	var long []byte
	for range api.MaxOptions + 1 {
		long = append(long, 1, 2)
	}
	for _, c := range []struct {
		what string
		up   bool
		p    api.Packet
		want api.Errno
	}{
		{"while the line is down", false, api.Packet{Code: api.EchoReq}, api.ErrState},
		{"half an option of a request", true, api.Packet{Code: api.ConfReq, Data: []byte{1}}, api.ErrForm},
		{"too many options of a request", true, api.Packet{Code: api.ConfReq, Data: long}, api.ErrLong},
		{"an older identifier", true, api.Packet{Code: api.ConfAck, Data: []byte{1, 2}}, api.ErrOld},
		{"an older identifier ahead of half an option", true, api.Packet{Code: api.ConfNak, Data: []byte{1}}, api.ErrOld},
		{"half an option of an Ack", true, api.Packet{Code: api.ConfAck, Id: 1, Data: []byte{1}}, api.ErrForm},
		{"half an option of a Nak", true, api.Packet{Code: api.ConfNak, Id: 1, Data: []byte{1}}, api.ErrForm},
		{"too many options of a Reject", true, api.Packet{Code: api.ConfRej, Id: 1, Data: long}, api.ErrLong},
		{"other data of an Ack", true, api.Packet{Code: api.ConfAck, Id: 1, Data: []byte{1, 3, 0}}, api.ErrData},
		{"other data of a Reject", true, api.Packet{Code: api.ConfRej, Id: 1, Data: []byte{1, 3, 0}}, api.ErrData},
		{"no data of a Code-Reject", true, api.Packet{Code: api.CodeRej}, api.ErrShort},
	} {
		n := started(t)
		if c.up {
			n.Do(api.Up)
		}
		l, err := n.accept(c.p)
		if len(l) != 0 || !errors.Is(err, fault.Dropped) || !errors.Is(err, c.want) {
			t.Errorf("P13.4: %s: %v, %v, want %v", c.what, l, err, c.want)
		}
		if want := "nego: dropped: " + c.want.Error(); err != nil && err.Error() != want {
			t.Errorf("P13.4: %s: %q, want %q", c.what, err, want)
		}
	}
	n := started(t)
	n.Do(api.Up)
	l, err := n.accept(api.Packet{Code: api.ConfAck, Id: 1, Data: []byte{1, 2}})
	if err != nil || !packet.Same(l, n.request) {
		t.Errorf("P13.4: an Ack: %v, %v", l, err)
	}
}

// P13.3: with LayerStart, the request is the first one again and no Nak counts
// any more. An Up comes ahead of all that could show it.
func TestLayerStart(t *testing.T) {
	first := []api.Option{{Type: 3}}
	n := started(t)
	n.Do(api.Up)
	n.Input(api.Packet{Code: api.ConfRej, Id: 1, Data: []byte{1, 2}})
	n.naks = 3
	n.Input(api.Packet{Code: api.CodeRej, Data: []byte{1}})
	n.Ask(first)
	if n.State() != api.Stopped || len(n.request) != 0 || n.naks != 3 {
		t.Fatalf("state %d, the request is %v, %d Naks", n.State(), n.request, n.naks)
	}
	if out := n.Do(api.Down); !out.Start || !packet.Same(n.request, first) || n.naks != 0 {
		t.Errorf("P13.3: behind LayerStart (%v) the request is %v, want %v; %d Naks", out.Start, n.request, first, n.naks)
	}
}
