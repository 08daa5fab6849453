package packet

import (
	"bytes"
	"errors"

	"fairlead/api"
	"fairlead/fault"
	"fairlead/number"
)

// reader takes packets and options from the front of rest, which is the caller's.
type reader struct{ rest []byte }

func (r *reader) packet() (api.Packet, error) {
	head, data, err := r.next(packetHead, packetLength)
	if err != nil {
		return api.Packet{}, err
	}
	if len(data) > maxPacketData {
		return api.Packet{}, fault.Of(layer, api.ErrLong)
	}
	return api.Packet{Code: int(head[0]), Id: int(head[1]), Data: bytes.Clone(data)}, nil
}

func (r *reader) options() ([]api.Option, error) {
	var l []api.Option
	for len(r.rest) > 0 {
		if len(l) == api.MaxOptions {
			return nil, fault.Of(layer, api.ErrLong)
		}
		o, err := r.option()
		if err != nil {
			return nil, err
		}
		l = append(l, o)
	}
	return l, nil
}

// option tells bytes that end too early as a wrong form: unlike a packet, an
// option is read from a list that is whole.
func (r *reader) option() (api.Option, error) {
	head, data, err := r.next(optionHead, optionLength)
	if errors.Is(err, api.ErrShort) {
		return api.Option{}, fault.Of(layer, api.ErrForm)
	}
	if err != nil {
		return api.Option{}, err
	}
	return api.Option{Type: int(head[0]), Data: bytes.Clone(data)}, nil
}

// next takes a head of size bytes, of which the last length bytes tell the
// length, and the data behind it.
func (r *reader) next(size, length int) (head, data []byte, err error) {
	if head, err = r.take(size); err != nil {
		return nil, nil, err
	}
	stated := number.Of(head[size-length:])
	if stated < size {
		return nil, nil, fault.Of(layer, api.ErrForm)
	}
	if data, err = r.take(stated - size); err != nil {
		return nil, nil, err
	}
	return head, data, nil
}

// take takes the next n bytes, which it doesn't copy.
func (r *reader) take(n int) ([]byte, error) {
	if n > len(r.rest) {
		return nil, fault.Of(layer, api.ErrShort)
	}
	b := r.rest[:n]
	r.rest = r.rest[n:]
	return b, nil
}
