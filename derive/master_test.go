package derive_test

import (
	"fmt"
	"strings"
	"testing"

	"fairlead/api"
	"fairlead/chap"
	"fairlead/derive"
)

// known is the answer of the chapter's examples.
const known = "82309ECD8D708B5E A08FAA3981CD8354 4233114A3D85D6DF"

// P10.1: the chapter's example, and master keys of another program.
func TestMasterOfKnownSecrets(t *testing.T) {
	zeros, ones := strings.Repeat("00", 24), strings.Repeat("FF", 24)
	for _, c := range []struct{ secret, answer, want string }{
		{"clientPass", known, "FDECE3717A8C838C B388E527AE3CDD31"},
		{"clientPass", zeros, "65F0714B1C53A596 E047B7816A30F98D"},
		{"clientPass", ones, "875B7AC36676B869 93E8D9FC3C9A4193"},
		{"", known, "B894B38AE01F8050 4DAB447A1939F868"},
		{"", zeros, "21775F694ED23C1E 5C23CA5A7F71EAD1"},
		{"pa\u00dfw\U0001f511rd", "0001020304050607 08090A0B0C0D0E0F 1011121314151617", "3AC4E33D9B5CB542 6625D222B86827FF"},
		{strings.Repeat("x", 256), known, "73EBAADC3ED601FD F2923E3877168601"},
		{strings.Repeat("\U0001f600", 128), known, "D96493245E6F2CA3 424AD703FBF3A2AA"},
	} {
		got, err := derive.Master(c.secret, unhex(t, c.answer))
		wantKey(t, fmt.Sprintf("P10.1: Master(%q, %s)", c.secret, c.answer), got, err, unhex(t, c.want))
	}
}

// P10.1: each byte of an answer counts.
func TestMasterOfChangedAnswers(t *testing.T) {
	answer := unhex(t, known)
	for i := range answer {
		answer[i] ^= 0x80
		got, err := derive.Master("clientPass", answer)
		wantKey(t, fmt.Sprintf("P10.1: Master of the answer %X", answer), got, err, modelMaster("clientPass", answer))
		answer[i] ^= 0x80
	}
}

// refused is secrets that chap.Hash refuses, with its errors.
func refused() map[string]api.Errno {
	long := strings.Repeat("x", 257)
	return map[string]api.Errno{
		"\xff":                                  api.ErrForm,
		"clientPass\xc3":                        api.ErrForm,
		"\xed\xa0\x80":                          api.ErrForm,
		"\xc0\x80":                              api.ErrForm,
		"\xf4\x90\x80\x80":                      api.ErrForm,
		long + "\xff":                           api.ErrForm,
		long:                                    api.ErrLong,
		strings.Repeat("\U0001f600", 128) + "x": api.ErrLong,
		strings.Repeat("\u20ac", 1<<16):         api.ErrLong,
	}
}

// P10.1: the error of chap.Hash.
func TestMasterOfRefusedSecrets(t *testing.T) {
	answer := unhex(t, known)
	for secret, want := range refused() {
		if _, err := chap.Hash(secret); err != want {
			t.Errorf("chap.Hash(%.20q): error %d, want %d", secret, err, want)
		}
		got, err := derive.Master(secret, answer)
		wantError(t, fmt.Sprintf("P10.1: Master(%.20q)", secret), got, err, want)
	}
}

// lists is zeros in some numbers, for 24 a part of longer memory.
func lists() [][]byte {
	l := [][]byte{nil}
	for _, n := range []int{0, 1, 5, 7, 8, 9, 14, 15, 16, 17, 23, 24, 25, 32, 40, 48, 128, 255} {
		l = append(l, make([]byte, n, n+24))
	}
	return l
}

// P10.1: ErrArg for each other length of an answer, ahead of the errors of chap.Hash.
func TestMasterOfOtherLengths(t *testing.T) {
	secrets := []string{"clientPass", ""}
	for secret := range refused() {
		secrets = append(secrets, secret)
	}
	for _, answer := range lists() {
		for _, secret := range secrets {
			got, err := derive.Master(secret, answer)
			what := fmt.Sprintf("P10.1: Master(%.20q) of an answer of %d bytes", secret, len(answer))
			switch {
			case len(answer) != 24:
				wantError(t, what, got, err, api.ErrArg)
			case refused()[secret] != api.OK:
				wantError(t, what, got, err, refused()[secret])
			default:
				wantKey(t, what, got, err, modelMaster(secret, answer))
			}
		}
	}
}

// P10.1 with R4: a master key does not change with the answer.
func TestMasterKeepsNoAnswer(t *testing.T) {
	answer := unhex(t, known)
	got, err := derive.Master("clientPass", answer)
	clear(answer)
	wantKey(t, "R4: Master, with its answer changed later", got, err, unhex(t, "FDECE3717A8C838C B388E527AE3CDD31"))
}
