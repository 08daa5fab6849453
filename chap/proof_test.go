package chap_test

import (
	"fmt"
	"strings"
	"testing"

	"fairlead/api"
	"fairlead/chap"
)

// P9.2: the chapter's example, and answers and proofs of another program.
func TestRespondAndProofOfKnownSecrets(t *testing.T) {
	peer, auth := ends(t)
	for _, c := range []struct{ name, secret, answer, proof, ofZeros string }{
		{"User", "clientPass",
			"82309ECD8D708B5EA08FAA3981CD83544233114A3D85D6DF",
			"S=407A5589115FD0D6209F510FE9C04566932CDA56",
			"S=6E1EFC9B8AC96450F2B4D04622F6EA2DA3052E2E"},
		{`BIGCO\User`, "clientPass",
			"82309ECD8D708B5EA08FAA3981CD83544233114A3D85D6DF",
			"S=407A5589115FD0D6209F510FE9C04566932CDA56",
			"S=6E1EFC9B8AC96450F2B4D04622F6EA2DA3052E2E"},
		{"", "",
			"41A656988723E140D3D71631A0E10799B938DDE8F72ADE77",
			"S=E6FE7D2175D847B774189E5A5E33887D7CAB259D",
			"S=58788A01EEEDC4DBE7E5FDCE7FA7576304964FB4"},
		{"J\u00fcrgen", "pa\u00dfw\U0001f511rd",
			"8AFCE1B3D647F894F9303B9C2159EDCC248CD0F2061B6EDB",
			"S=396B7F79A661FA4D5F3B3C1124B7D078DC4F127C",
			"S=692CC751FE0A39091A8D294B61B41556162CFBD7"},
		{strings.Repeat("U", 64), strings.Repeat(one, 256),
			"872B8B5D2905E004DC9C1269223F36DDA77CC8DF304D2206",
			"S=C26B38879A1AB523F9C9CA38CF69432BAEFFF77D",
			"S=6B33D30B6FBD551D9DA7A3432153476DA6D7F6B4"},
	} {
		what := fmt.Sprintf("of the name %q, the secret %q", c.name, c.secret)
		answer, err := chap.Respond(auth, peer, c.name, c.secret)
		wantText(t, "P9.2: Respond "+what, answer, err, c.answer)
		proof, err := chap.Proof(c.secret, unhex(t, c.answer), peer, auth, c.name)
		wantText(t, "P9.2: Proof "+what, proof, err, c.proof)
		proof, err = chap.Proof(c.secret, make([]byte, 24), peer, auth, c.name)
		wantText(t, "P9.2: Proof of an answer of zeros, "+what, proof, err, c.ofZeros)
	}
}

// P9.2: each argument counts.
func TestProofOfOtherArguments(t *testing.T) {
	peer, auth := ends(t)
	answer, _ := chap.Respond(auth, peer, "User", "clientPass")
	seen := map[string]bool{}
	see := func(secret, name string) {
		proof, err := chap.Proof(secret, answer, peer, auth, name)
		if err != api.OK || seen[proof] {
			t.Errorf("P9.2: Proof of %X, %X, %X, the name %q, the secret %q: %s, error %d, which others have, too", answer, peer, auth, name, secret, proof, err)
		}
		seen[proof] = true
	}
	see("clientPass", "User")
	see("ClientPass", "User")
	see("clientPass", "user")
	for _, l := range [][]byte{answer, peer, auth} {
		for i := range l {
			l[i] ^= 0x80
			see("clientPass", "User")
			l[i] ^= 0x80
		}
	}
	peer, auth = auth, peer
	see("clientPass", "User")
}

// fault is arguments with the error that they ask for; a right one is OK's.
type fault[T any] struct {
	v    T
	want api.Errno
}

func names() []fault[string] {
	list := []fault[string]{{"User", api.OK}}
	for _, name := range tooLong() {
		list = append(list, fault[string]{name, api.ErrLong})
	}
	return list
}

func secrets() []fault[string] {
	long := strings.Repeat(one, 257)
	list := []fault[string]{{"clientPass", api.OK}, {long, api.ErrLong}, {strings.Repeat(two, 129), api.ErrLong}, {long + "\xff", api.ErrForm}}
	for _, bad := range invalid() {
		list = append(list, fault[string]{bad, api.ErrForm})
	}
	return list
}

// sized is lists of some lengths, of which one is right.
func sized(right int) []fault[[]byte] {
	b := make([]byte, 255)
	list := []fault[[]byte]{{b[:right], api.OK}}
	for _, n := range lengths {
		if n != right {
			list = append(list, fault[[]byte]{part(b, n), api.ErrArg})
		}
	}
	return list
}

// first is the first of some errors that is one.
func first(errors ...api.Errno) api.Errno {
	for _, e := range errors {
		if e != api.OK {
			return e
		}
	}
	return api.OK
}

// P9.2: the errors of Challenge and then those of Hash, also where several apply.
func TestRespondErrors(t *testing.T) {
	for _, auth := range sized(16) {
		for _, peer := range sized(16) {
			for _, name := range names() {
				for _, secret := range secrets() {
					want := first(auth.want, peer.want, name.want, secret.want)
					if want == api.OK {
						continue
					}
					got, err := chap.Respond(auth.v, peer.v, name.v, secret.v)
					wantError(t, fmt.Sprintf("P9.2: Respond of %d and %d bytes, a name of %d, the secret %.20q", len(auth.v), len(peer.v), len(name.v), secret.v), got, err, want)
				}
			}
		}
	}
}

// P9.2: ErrArg for another length of an answer, then the errors of Challenge, then those of Hash.
func TestProofErrors(t *testing.T) {
	for _, answer := range sized(24) {
		for _, peer := range sized(16) {
			for _, auth := range sized(16)[:3] {
				for _, name := range names() {
					for _, secret := range secrets() {
						want := first(answer.want, peer.want, auth.want, name.want, secret.want)
						if want == api.OK {
							continue
						}
						got, err := chap.Proof(secret.v, answer.v, peer.v, auth.v, name.v)
						wantError(t, fmt.Sprintf("P9.2: Proof of %d, %d and %d bytes, a name of %d, the secret %.20q", len(answer.v), len(peer.v), len(auth.v), len(name.v), secret.v), got, err, want)
					}
				}
			}
		}
	}
}

// P9.2 with R4: one list may serve as both ends, and a result does not change with the arguments.
func TestRespondKeepsNoArgument(t *testing.T) {
	peer, auth := ends(t)
	got, err := chap.Respond(peer, peer, "User", "clientPass")
	wantBytes(t, "P9.2: Respond of one list", got, err, modelAnswer(t, modelChallenge(peer, peer, "User"), modelHash("clientPass")))
	got, err = chap.Respond(auth, peer, "User", "clientPass")
	clear(peer)
	clear(auth)
	wantText(t, "R4: Respond, with its arguments changed later", got, err, "82309ECD8D708B5EA08FAA3981CD83544233114A3D85D6DF")
}
