package chap_test

import (
	"fmt"
	"math/rand/v2"
	"testing"

	"fairlead/api"
	"fairlead/chap"
)

// P9.1: the example of the chapter, and answers of another program.
func TestAnswerOfKnownChallenges(t *testing.T) {
	for _, c := range []struct{ challenge, hash, want string }{
		{"D02E4386BCE91226", "44EBBA8D5312B8D611474411F56989AE", "82309ECD8D708B5E A08FAA3981CD8354 4233114A3D85D6DF"},
		{"0000000000000000", "00000000000000000000000000000000", "8CA64DE9C1B123A7 8CA64DE9C1B123A7 8CA64DE9C1B123A7"},
		{"FFFFFFFFFFFFFFFF", "FFFFFFFFFFFFFFFFFFFFFFFFFFFFFFFF", "7359B2163E4EDC58 7359B2163E4EDC58 8365C9C6299375D1"},
		{"0123456789ABCDEF", "00112233445566778899AABBCCDDEEFF", "BF29AF32F6C91CF2 95ECEF3F06F11A81 A48C122A761A897B"},
		{"1122334455667788", "00000000000000000000000000000001", "CD72DFC6E6D040A4 CD72DFC6E6D040A4 E7FA93605E1323BA"},
	} {
		got, err := chap.Answer(unhex(t, c.challenge), unhex(t, c.hash))
		wantBytes(t, fmt.Sprintf("P9.1: Answer(%s, %s)", c.challenge, c.hash), got, err, unhex(t, c.want))
	}
}

// P9.1: each bit of a hash counts, in the third of the answer whose key it is a part of and in no other.
func TestAnswerOfEachBit(t *testing.T) {
	r := rand.New(rand.NewPCG(9, 3))
	challenge, hash := randomBytes(r, 8), randomBytes(r, 16)
	before, _ := chap.Answer(challenge, hash)
	for i := range 128 {
		hash[i/8] ^= 1 << (i % 8)
		after, err := chap.Answer(challenge, hash)
		wantBytes(t, fmt.Sprintf("P9.1: Answer with bit %d changed", i), after, err, modelAnswer(t, challenge, hash))
		for third := range 3 {
			same := string(after[8*third:8*third+8]) == string(before[8*third:8*third+8])
			if same != (i/56 != third) {
				t.Errorf("P9.1: Answer with bit %d changed: third %d is the same: %v", i, third, same)
			}
		}
		hash[i/8] ^= 1 << (i % 8)
	}
}

// P9.1: ErrArg for each other length of a challenge or of a hash.
func TestAnswerOfOtherLengths(t *testing.T) {
	b := randomBytes(rand.New(rand.NewPCG(9, 4)), 255)
	for _, m := range lengths {
		for _, n := range lengths {
			challenge, hash := part(b, m), part(b, n)
			got, err := chap.Answer(challenge, hash)
			what := fmt.Sprintf("P9.1: Answer of %d bytes under a hash of %d", m, n)
			if m == 8 && n == 16 {
				wantBytes(t, what, got, err, modelAnswer(t, challenge, hash))
			} else {
				wantError(t, what, got, err, api.ErrArg)
			}
		}
	}
}

// P9.1 with R4: a result does not change with the arguments.
func TestAnswerKeepsNoArgument(t *testing.T) {
	challenge, hash := unhex(t, "0123456789ABCDEF"), unhex(t, "00112233445566778899AABBCCDDEEFF")
	got, err := chap.Answer(challenge, hash)
	clear(challenge)
	clear(hash)
	wantText(t, "R4: Answer, with its arguments changed later", got, err, "BF29AF32F6C91CF295ECEF3F06F11A81A48C122A761A897B")
}
