package chap_test

import (
	"fmt"
	"strings"
	"testing"

	"fairlead/api"
	"fairlead/chap"
)

// lengths is some of lists, a nil one for -1.
var lengths = []int{-1, 0, 1, 7, 8, 9, 15, 16, 17, 23, 24, 25, 32, 255}

func part(b []byte, n int) []byte {
	if n < 0 {
		return nil
	}
	return b[:n]
}

// P9.1: the chapter's example, and challenges of another program.
func TestChallengeOfKnownNames(t *testing.T) {
	peer, auth := ends(t)
	for _, c := range []struct{ name, want string }{
		{"User", "D02E4386BCE91226"},
		{"", "149DFAABB39D5210"},
		{"user", "E4D87CE5EA699C89"},
		{"User ", "0B0680901A9DDFF9"},
		{"J\u00fcrgen", "B8DD9AC2359E303E"},
		{"\xff\x00User", "A7A16EEDBF296FD3"},
		{strings.Repeat("U", 64), "3D4E65815F933280"},
	} {
		got, err := chap.Challenge(peer, auth, c.name)
		wantText(t, fmt.Sprintf("P9.1: Challenge of the name %q", c.name), got, err, c.want)
	}
	got, err := chap.Challenge(auth, peer, "User")
	wantText(t, "P9.1: Challenge with its ends exchanged", got, err, "CBAB070439B60411")
}

// P9.1: the bytes after the last backslash are used, and a name of 64 bytes is allowed with them all counted.
func TestChallengeOfTheBareName(t *testing.T) {
	peer, auth := ends(t)
	for _, c := range []struct{ name, want string }{
		{`BIGCO\User`, "D02E4386BCE91226"},
		{`\User`, "D02E4386BCE91226"},
		{`a\b\User`, "D02E4386BCE91226"},
		{`\\User`, "D02E4386BCE91226"},
		{"\x83\\User", "D02E4386BCE91226"},
		{strings.Repeat("D", 59) + `\User`, "D02E4386BCE91226"},
		{strings.Repeat(`\`, 60) + "User", "D02E4386BCE91226"},
		{`User\`, "149DFAABB39D5210"},
		{`\`, "149DFAABB39D5210"},
		{strings.Repeat("U", 63) + `\`, "149DFAABB39D5210"},
		{"a/User", "C2F6CCA076F6CBFF"},
	} {
		got, err := chap.Challenge(peer, auth, c.name)
		wantText(t, fmt.Sprintf("P9.1: Challenge of the name %q", c.name), got, err, c.want)
	}
}

// tooLong is names of more than 64 bytes, some with a shorter bare name.
func tooLong() []string {
	return []string{
		strings.Repeat("U", 65),
		strings.Repeat("D", 60) + `\User`,
		strings.Repeat(`\`, 65),
		strings.Repeat("U", 64) + `\`,
		strings.Repeat("\u00fc", 33), // 33 letters, but 66 bytes
		strings.Repeat("\x00", 1<<20),
	}
}

// P9.1: ErrLong.
func TestChallengeOfTooLongNames(t *testing.T) {
	peer, auth := ends(t)
	for _, name := range tooLong() {
		got, err := chap.Challenge(peer, auth, name)
		wantError(t, fmt.Sprintf("P9.1: Challenge of a name of %d bytes", len(name)), got, err, api.ErrLong)
	}
}

// P9.1: ErrArg for each other length of peer or of auth, ahead of ErrLong.
func TestChallengeOfOtherLengths(t *testing.T) {
	b := make([]byte, 255)
	for _, name := range append(tooLong(), "", "User") {
		for _, m := range lengths {
			for _, n := range lengths {
				if m == 16 && n == 16 {
					continue
				}
				got, err := chap.Challenge(part(b, m), part(b, n), name)
				wantError(t, fmt.Sprintf("P9.1: Challenge of %d and %d bytes and a name of %d", m, n, len(name)), got, err, api.ErrArg)
			}
		}
	}
}

// P9.1 with R4: one list may serve as both, and a result does not change with the arguments.
func TestChallengeKeepsNoArgument(t *testing.T) {
	peer, auth := ends(t)
	got, err := chap.Challenge(peer, peer, "User")
	wantBytes(t, "P9.1: Challenge of one list", got, err, modelChallenge(peer, peer, "User"))
	got, err = chap.Challenge(peer, auth, "User")
	clear(peer)
	clear(auth)
	wantText(t, "R4: Challenge, with its arguments changed later", got, err, "D02E4386BCE91226")
}
