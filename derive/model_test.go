package derive_test

import (
	"bytes"
	"crypto/rc4"
	"crypto/sha1"
	"encoding/binary"
	"encoding/hex"
	"fmt"
	"math/rand/v2"
	"strings"
	"testing"
	"unicode/utf16"

	"fairlead/api"
	"fairlead/derive"
	"fairlead/md4"
)

// strength is a number of bits, with what the chapter says of its keys.
type strength struct {
	bits, size int
	known      string // what a reduced key begins with
}

func strengths() []strength {
	return []strength{{40, 8, "\xd1\x26\x9e"}, {56, 8, "\xd1"}, {128, 16, ""}}
}

func modelMaster(secret string, answer []byte) []byte {
	var units []byte
	for _, u := range utf16.Encode([]rune(secret)) {
		units = binary.LittleEndian.AppendUint16(units, u)
	}
	h := sha1.New()
	h.Write(md4.Sum(md4.Sum(units)))
	h.Write(answer)
	h.Write([]byte("This is the MPPE Master Key"))
	return h.Sum(nil)[:16]
}

func (s strength) start(master []byte, first bool) []byte {
	if first {
		return s.mix(master, []byte("On the client side, this is the send key; on the server side, it is the receive key."))
	}
	return s.mix(master, []byte("On the client side, this is the receive key; on the server side, it is the send key."))
}

func (s strength) mix(key, more []byte) []byte {
	h := sha1.New()
	h.Write(key)
	h.Write(make([]byte, 40))
	h.Write(more)
	h.Write([]byte(strings.Repeat("\xf2", 40)))
	return h.Sum(nil)[:s.size]
}

func (s strength) reduced(key []byte) []byte { return []byte(s.known + string(key[len(s.known):])) }

func (s strength) first(start []byte) []byte { return s.reduced(s.mix(start, start)) }

func (s strength) next(start, session []byte) []byte {
	mixed := s.mix(start, session)
	c, err := rc4.NewCipher(mixed)
	if err != nil {
		panic(err)
	}
	key := make([]byte, len(mixed))
	c.XORKeyStream(key, mixed)
	return s.reduced(key)
}

// unhex is the bytes of digits, which may stand in groups.
func unhex(t *testing.T, digits string) []byte {
	t.Helper()
	b, err := hex.DecodeString(strings.ReplaceAll(digits, " ", ""))
	if err != nil {
		t.Fatal(err)
	}
	return b
}

func fill(r *rand.Rand, b []byte) {
	for i := range b {
		b[i] = byte(r.Uint32())
	}
}

func wantKey(t *testing.T, what string, got []byte, err api.Errno, want []byte) {
	t.Helper()
	if err != api.OK || !bytes.Equal(got, want) {
		t.Errorf("%s: %X, error %d, want %X", what, got, err, want)
	}
}

// wantError holds an error against want, with R2.
func wantError(t *testing.T, what string, got []byte, err, want api.Errno) {
	t.Helper()
	if err != want || len(got) != 0 {
		t.Errorf("%s: %X, error %d, want nothing, error %d", what, got, err, want)
	}
}

// wantTwice holds two calls against want, with R5, and with R4: what the first
// one handed out is overwritten in between.
func wantTwice(t *testing.T, what string, want []byte, call func() ([]byte, api.Errno)) {
	t.Helper()
	for range 2 {
		got, err := call()
		wantKey(t, what, got, err, want)
		clear(got[:cap(got)])
	}
}

// secretOf is n letters of some of the planes.
func secretOf(r *rand.Rand, n int) string {
	letters := []rune("aZ0 \x00\\\u00e9\u20ac\ud7ff\ue000\uffff\U0001f511\U0010ffff")
	var s strings.Builder
	for range n {
		s.WriteRune(letters[r.IntN(len(letters))])
	}
	return s.String()
}

// P10.1 and P10.2: all functions against models by the library, with R4 and R5.
func TestModels(t *testing.T) {
	r := rand.New(rand.NewPCG(10, 1))
	for i := range 500 {
		memory := make([]byte, 90)
		fill(r, memory)
		before := bytes.Clone(memory)
		secret, answer, master := secretOf(r, i%129), memory[1:25], memory[30:46]
		wantTwice(t, fmt.Sprintf("P10.1: Master(%q, %X)", secret, answer), modelMaster(secret, answer), func() ([]byte, api.Errno) {
			return derive.Master(secret, answer)
		})
		for _, s := range strengths() {
			for _, first := range []bool{true, false} {
				wantTwice(t, fmt.Sprintf("P10.1: Start(%X, %d, %v)", master, s.bits, first), s.start(master, first), func() ([]byte, api.Errno) {
					return derive.Start(master, s.bits, first)
				})
			}
			start, session := memory[50:50+s.size], memory[70:70+s.size]
			wantTwice(t, fmt.Sprintf("P10.2: First(%X, %d)", start, s.bits), s.first(start), func() ([]byte, api.Errno) {
				return derive.First(start, s.bits)
			})
			wantTwice(t, fmt.Sprintf("P10.2: Next(%X, %X, %d)", start, session, s.bits), s.next(start, session), func() ([]byte, api.Errno) {
				return derive.Next(start, session, s.bits)
			})
		}
		if !bytes.Equal(memory, before) {
			t.Fatal("R4: an argument changed")
		}
	}
}
