package auth

import (
	"bytes"
	"slices"

	"fairlead/api"
	"fairlead/fault"
)

// Lengths in bytes of what the Data of packets holds. The first byte states that
// of the value behind it, and what is behind that is a name.
const (
	statedSize   = 1
	drawnSize    = 16 // of what either end draws: the value of a Challenge
	reservedSize = 8
	answerSize   = 24
	flagsSize    = 1
	valueSize    = drawnSize + reservedSize + answerSize + flagsSize // of a Response
)

// response is what a Response tells.
type response struct {
	peer   []byte // what the client has drawn
	answer []byte
	name   string
}

func challengeData(challenge []byte, name string) []byte {
	return slices.Concat([]byte{drawnSize}, challenge, []byte(name))
}

func (r response) data() []byte {
	return slices.Concat([]byte{valueSize}, r.peer, make([]byte, reservedSize), r.answer, make([]byte, flagsSize), []byte(r.name))
}

// readChallenge is what the server has drawn, by the Data of a Challenge.
func readChallenge(data []byte) ([]byte, error) {
	value, _, err := readValue(data, drawnSize)
	return value, err
}

// readResponse is what the Data of a Response tells.
func readResponse(data []byte) (response, error) {
	value, name, err := readValue(data, valueSize)
	if err != nil {
		return response{}, err
	}
	peer, rest := value[:drawnSize], value[drawnSize:]
	reserved, rest := rest[:reservedSize], rest[reservedSize:]
	answer, flags := rest[:answerSize], rest[answerSize:]
	switch {
	case !areZero(reserved) || !areZero(flags):
		return response{}, fault.Drop(layer, api.ErrForm)
	case len(name) > api.MaxName:
		return response{}, fault.Drop(layer, api.ErrLong)
	}
	return response{peer: bytes.Clone(peer), answer: bytes.Clone(answer), name: string(name)}, nil
}

// readValue takes a value of size bytes, which data has to state, and the name
// behind it. They are parts of data.
func readValue(data []byte, size int) (value, name []byte, err error) {
	switch {
	case len(data) < statedSize+size:
		return nil, nil, fault.Drop(layer, api.ErrShort)
	case int(data[0]) != size:
		return nil, nil, fault.Drop(layer, api.ErrForm)
	}
	rest := data[statedSize:]
	return rest[:size], rest[size:], nil
}

func areZero(b []byte) bool {
	return !slices.ContainsFunc(b, func(x byte) bool { return x != 0 })
}
