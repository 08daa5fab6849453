package chap_test

import (
	"bytes"
	"crypto/des"
	"crypto/sha1"
	"encoding/binary"
	"encoding/hex"
	"fmt"
	"math/rand/v2"
	"strings"
	"testing"
	"unicode/utf16"

	"fairlead/api"
	"fairlead/chap"
	"fairlead/md4"
)

// unhex is the bytes of digits, which may stand in groups.
func unhex(t *testing.T, digits string) []byte {
	t.Helper()
	b, err := hex.DecodeString(strings.ReplaceAll(digits, " ", ""))
	if err != nil {
		t.Fatal(err)
	}
	return b
}

// ends is what the two ends of the chapter's examples have drawn.
func ends(t *testing.T) (peer, auth []byte) {
	t.Helper()
	return unhex(t, "21402324255E262A28295F2B3A337C7E"), unhex(t, "5B5D7C7D7B3F2F3E3C2C602132262628")
}

func randomBytes(r *rand.Rand, n int) []byte {
	b := make([]byte, n)
	for i := range b {
		b[i] = byte(r.Uint32())
	}
	return b
}

// wantText holds the digits of got, or a text, against want.
func wantText[T []byte | string](t *testing.T, what string, got T, err api.Errno, want string) {
	t.Helper()
	text := string(got)
	if b, ok := any(got).([]byte); ok {
		text = fmt.Sprintf("%X", b)
	}
	if err != api.OK || text != want {
		t.Errorf("%s: %s, error %d, want %s", what, text, err, want)
	}
}

func wantBytes(t *testing.T, what string, got []byte, err api.Errno, want []byte) {
	t.Helper()
	wantText(t, what, got, err, fmt.Sprintf("%X", want))
}

// wantError holds an error against want, with R2.
func wantError[T []byte | string](t *testing.T, what string, got T, err, want api.Errno) {
	t.Helper()
	if err != want || len(got) != 0 {
		t.Errorf("%s: %x, error %d, want nothing, error %d", what, got, err, want)
	}
}

func modelHash(secret string) []byte {
	var b []byte
	for _, u := range utf16.Encode([]rune(secret)) {
		b = binary.LittleEndian.AppendUint16(b, u)
	}
	return md4.Sum(b)
}

func modelChallenge(peer, auth []byte, name string) []byte {
	parts := strings.Split(name, "\\")
	h := sha1.New()
	h.Write(peer)
	h.Write(auth)
	h.Write([]byte(parts[len(parts)-1]))
	return h.Sum(nil)[:8]
}

// modelAnswer asks the library's DES, whose keys have a further bit in each byte.
func modelAnswer(t *testing.T, challenge, hash []byte) []byte {
	t.Helper()
	var bits strings.Builder
	for _, x := range hash {
		fmt.Fprintf(&bits, "%08b", x)
	}
	bits.WriteString(strings.Repeat("0", 168-8*len(hash)))
	out := make([]byte, 24)
	for i := range 3 {
		key := make([]byte, 8)
		for j := range key {
			fmt.Sscanf(bits.String()[56*i+7*j:56*i+7*j+7]+"0", "%b", &key[j])
		}
		c, err := des.NewCipher(key)
		if err != nil {
			t.Fatal(err)
		}
		c.Encrypt(out[8*i:], challenge)
	}
	return out
}

func modelProof(secret string, answer, peer, auth []byte, name string) string {
	signed := sha1.New()
	signed.Write(md4.Sum(modelHash(secret)))
	signed.Write(answer)
	signed.Write([]byte("Magic server to client signing constant"))
	h := sha1.New()
	h.Write(signed.Sum(nil))
	h.Write(modelChallenge(peer, auth, name))
	h.Write([]byte("Pad to make it do more than one iteration"))
	return fmt.Sprintf("S=%X", h.Sum(nil))
}

// secretOf is letters whose units are these in number, of one unit or of two at random.
func secretOf(r *rand.Rand, units int) string {
	var s strings.Builder
	for units > 0 {
		switch n := r.IntN(5); {
		case n == 0 && units > 1:
			s.WriteRune(0x10000 + r.Int32N(0x100000))
			units--
		case n == 1:
			s.WriteRune(0xe000 + r.Int32N(0x2000))
		case n == 2:
			s.WriteRune(r.Int32N(0xd800))
		default:
			s.WriteRune(r.Int32N(0x80))
		}
		units--
	}
	return s.String()
}

// nameOf is n bytes of which some are backslashes, and some no UTF-8.
func nameOf(r *rand.Rand, n int) string {
	b := randomBytes(r, n)
	for i := range b {
		if r.IntN(24) == 0 {
			b[i] = '\\'
		}
	}
	return string(b)
}

// P9.1 and P9.2: all functions against models by the library, with R4 and R5.
func TestModels(t *testing.T) {
	r := rand.New(rand.NewPCG(9, 1))
	for i := range 1500 {
		name, secret := nameOf(r, i%65), secretOf(r, i%257)
		memory := randomBytes(r, 100)
		peer, auth, answer := memory[1:17], memory[20:36], memory[40:64]
		challenge, hash := memory[64:72], memory[80:96]
		before := bytes.Clone(memory)
		for range 2 {
			got, err := chap.Hash(secret)
			wantBytes(t, fmt.Sprintf("P9.1: Hash(%q)", secret), got, err, modelHash(secret))
			clear(got[:cap(got)])
			got, err = chap.Challenge(peer, auth, name)
			wantBytes(t, fmt.Sprintf("P9.1: Challenge of the name %q", name), got, err, modelChallenge(peer, auth, name))
			clear(got[:cap(got)])
			got, err = chap.Answer(challenge, hash)
			wantBytes(t, fmt.Sprintf("P9.1: Answer(%X, %X)", challenge, hash), got, err, modelAnswer(t, challenge, hash))
			clear(got[:cap(got)])
			got, err = chap.Respond(auth, peer, name, secret)
			want := modelAnswer(t, modelChallenge(peer, auth, name), modelHash(secret))
			wantBytes(t, fmt.Sprintf("P9.2: Respond of the name %q, the secret %q", name, secret), got, err, want)
			clear(got[:cap(got)])
			text, err := chap.Proof(secret, answer, peer, auth, name)
			what := fmt.Sprintf("P9.2: Proof of the name %q, the secret %q", name, secret)
			wantText(t, what, text, err, modelProof(secret, answer, peer, auth, name))
		}
		if !bytes.Equal(memory, before) {
			t.Fatal("R4: an argument changed")
		}
	}
}
