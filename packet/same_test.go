package packet_test

import (
	"math/rand/v2"
	"slices"
	"testing"

	"fairlead/api"
	"fairlead/packet"
)

// wantSame asks both ways round.
func wantSame(t *testing.T, a, b []api.Option, want bool) {
	t.Helper()
	before := [2]string{flat(a, api.OK), flat(b, api.OK)}
	if got := packet.Same(a, b); got != want {
		t.Errorf("P11.2: Same of %s and %s: %v", before[0], before[1], got)
	}
	if got := packet.Same(b, a); got != want {
		t.Errorf("P11.2: Same of %s and %s: %v", before[1], before[0], got)
	}
	if after := [2]string{flat(a, api.OK), flat(b, api.OK)}; after != before {
		t.Errorf("Same made %q of %q", after, before)
	}
}

func TestSameOfKnownLists(t *testing.T) {
	one := api.Option{Type: 1, Data: []byte{5, 0xdc}}
	two := api.Option{Type: 2, Data: []byte{5, 0xdc}}
	bare := api.Option{Type: 1}
	list := func(l ...api.Option) []api.Option { return l }
	for _, c := range []struct {
		a, b []api.Option
		want bool
	}{
		{nil, nil, true},
		{nil, list(), true},
		{list(), []api.Option{}, true},
		{nil, list(bare), false},
		{list(), list(api.Option{}), false},
		{list(one), list(api.Option{Type: 1, Data: []byte{5, 0xdc}}), true},
		{list(bare), list(api.Option{Type: 1, Data: []byte{}}), true},
		{list(one), list(two), false},
		{list(one), list(bare), false},
		{list(one), list(api.Option{Type: 1, Data: []byte{5}}), false},
		{list(one), list(api.Option{Type: 1, Data: []byte{5, 0xdc, 0}}), false},
		{list(one), list(api.Option{Type: 1, Data: []byte{0xdc, 5}}), false},
		{list(one, two), list(one, two), true},
		{list(one, two), list(two, one), false},
		{list(one, one), list(one), false},
		{list(one, two), list(one), false},
		{list(one, two), list(two), false},
		{list(one, one, two), list(one, two, two), false},
		{list(api.Option{Type: 0x0104}), list(api.Option{Type: 4}), false},
		{list(api.Option{Type: -1}), list(api.Option{Type: 255}), false},
		{list(api.Option{Type: -1}), list(api.Option{Type: -1}), true},
		{list(bare, api.Option{Type: 4, Data: []byte{1, 2}}), list(api.Option{Type: 1, Data: []byte{4, 4, 1, 2}}), false},
		{several(mostOptions + 8), several(mostOptions + 8), true},
		{several(mostOptions + 8), several(mostOptions + 7), false},
		{list(api.Option{Data: make([]byte, 1000)}), list(api.Option{Data: make([]byte, 1000)}), true},
		{list(api.Option{Data: make([]byte, 1000)}), list(api.Option{Data: make([]byte, 1001)}), false},
	} {
		wantSame(t, c.a, c.b, c.want)
	}
}

// P11.2: a list is the same as its copy, and no longer when one thing in it differs.
func TestSameOfListsThatDiffer(t *testing.T) {
	r := rand.New(rand.NewPCG(11, 4))
	for i := range 2000 {
		l := draw(r, 1+i%mostOptions)
		other := slices.Clone(l)
		for j := range other {
			other[j].Data = slices.Clone(l[j].Data)
		}
		wantSame(t, l, other, true)
		wantSame(t, l, l, true)
		place := r.IntN(len(l))
		o := &other[place]
		switch i % 4 {
		case 0:
			o.Type ^= 1 << r.IntN(8)
		case 1:
			o.Data = append(o.Data, 0)
		case 2:
			if len(o.Data) == 0 {
				continue
			}
			o.Data[r.IntN(len(o.Data))] ^= 1 << r.IntN(8)
		case 3:
			other = slices.Delete(other, place, place+1)
		}
		wantSame(t, l, other, false)
	}
}
