package nego

import (
	"bytes"
	"slices"

	"fairlead/api"
	"fairlead/packet"
)

// find is the place of the first option of a type, or -1.
func find(l []api.Option, kind int) int {
	return slices.IndexFunc(l, func(o api.Option) bool { return o.Type == kind })
}

// has tells whether l has an option like this one.
func has(l []api.Option, o api.Option) bool {
	return slices.ContainsFunc(l, func(x api.Option) bool {
		return x.Type == o.Type && bytes.Equal(x.Data, o.Data)
	})
}

func copied(o api.Option) api.Option {
	return api.Option{Type: o.Type, Data: bytes.Clone(o.Data)}
}

func copies(l []api.Option) []api.Option {
	c := make([]api.Option, 0, len(l))
	for _, o := range l {
		c = append(c, copied(o))
	}
	return c
}

// bytesOf is the bytes of options, or none where they have no encoding.
func bytesOf(l []api.Option) []byte {
	b, _ := packet.Options(l)
	return b
}
