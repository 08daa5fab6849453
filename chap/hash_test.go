package chap_test

import (
	"fmt"
	"math/rand/v2"
	"strings"
	"testing"

	"fairlead/api"
	"fairlead/chap"
)

const (
	one = "x"          // a letter of one unit
	two = "\U0001F600" // a letter of two units
)

// P9.1: the chapter's example, and digests of another program.
func TestHashOfKnownSecrets(t *testing.T) {
	for _, c := range []struct{ secret, want string }{
		{"clientPass", "44EBBA8D5312B8D611474411F56989AE"},
		{"", "31D6CFE0D16AE931B73C59D7E0C089C0"},
		{"a", "186CB09181E2C2ECAAC768C47C729904"},
		{"password", "8846F7EAEE8FB117AD06BDD830B7586C"},
		{"SecREt01", "CD06CA7C7E10C99B1D33B7485A2ED808"},
		{"\x00", "D4DA020AEDCD249A7A418867A6F0C18A"},
		{"\u00e9", "E77286D072C7858E9110CC3A011D2AC8"},
		{"\u20ac", "030926B781938DB4365D46ADC7CFBCB8"},
		{"\ud7ff\ue000\ufeff\ufffd\uffff", "93E0D3FAF6C155C0E1DB8FD9203D2B17"},
		{"\U00010000", "65E4CD1AB5677E0B55855A15FE3B442A"},
		{two, "4B58A10CC20A4E7D808D218E1F80AABC"},
		{"\U0010ffff", "9E0AD9DAE64DD4CC4419DDF6420F8E42"},
		{"a\U0001f511\u00fc\\", "4A8EBD3269599E6A3B7F5097CB183BCE"},
		{strings.Repeat(one, 256), "6C5A26717895EDF2E532F7D0048ACC65"},
		{strings.Repeat("\u20ac", 256), "1FD37AAAD62C59FF0992D58798147E82"},
		{strings.Repeat(two, 128), "F8FA08817385E00F4344AEEC02847C21"},
	} {
		got, err := chap.Hash(c.secret)
		wantText(t, fmt.Sprintf("P9.1: Hash(%q)", c.secret), got, err, c.want)
	}
}

// P9.1: each code point has its one or two units, some hundred of them in a secret.
func TestHashOfEachCodePoint(t *testing.T) {
	var s strings.Builder
	letters := 0
	for c := rune(0); c <= 0x10ffff; c++ {
		if c < 0xd800 || c > 0xdfff {
			s.WriteRune(c)
			letters++
		}
		if letters == 128 || c == 0x10ffff {
			got, err := chap.Hash(s.String())
			wantBytes(t, fmt.Sprintf("P9.1: Hash of the code points up to %X", c), got, err, modelHash(s.String()))
			s.Reset()
			letters = 0
		}
	}
}

// P9.1: units are counted, not bytes and not letters.
func TestHashOfTheMostUnits(t *testing.T) {
	for _, secret := range []string{
		strings.Repeat(one, 256),
		strings.Repeat("\u00e9", 256),
		strings.Repeat("\uffff", 256),
		strings.Repeat(two, 128),
		two + strings.Repeat(one, 254),
		strings.Repeat(one, 254) + two,
	} {
		got, err := chap.Hash(secret)
		wantBytes(t, fmt.Sprintf("P9.1: Hash(%q)", secret), got, err, modelHash(secret))
	}
}

// P9.1: ErrLong.
func TestHashOfTooManyUnits(t *testing.T) {
	for _, secret := range []string{
		strings.Repeat(one, 257),
		strings.Repeat("\u00e9", 257),
		strings.Repeat("\uffff", 257),
		strings.Repeat(two, 129),
		two + strings.Repeat(one, 255),
		strings.Repeat(one, 255) + two,
		strings.Repeat(two, 128) + one,
		strings.Repeat(one, 1<<20),
	} {
		got, err := chap.Hash(secret)
		wantError(t, fmt.Sprintf("P9.1: Hash of a secret of %d bytes", len(secret)), got, err, api.ErrLong)
	}
}

// invalid is texts that are no valid UTF-8, a fault each.
func invalid() []string {
	return []string{
		// Bytes that belong to no letter, and letters that are cut.
		"\x80", "\xbf", "\xc3\xa9\xa9", "\xfe", "\xff",
		"\xc3", "\xe2\x82", "\xf0\x9f\x98", "\xc3(", "\xe2(\xa1", "\xe2\x82(", "\xf0\x9f(\x80", "\xf0\x9f\x98(",
		// Encodings that are not the shortest.
		"\xc0\x80", "\xc1\xbf", "\xe0\x80\x80", "\xe0\x9f\xbf", "\xf0\x80\x80\x80", "\xf0\x8f\xbf\xbf",
		// D800 to DFFF, also two of them that are the units of a letter.
		"\xed\xa0\x80", "\xed\xaf\xbf", "\xed\xb0\x80", "\xed\xbf\xbf", "\xed\xa0\xbd\xed\xb8\x80",
		// Above 10FFFF.
		"\xf4\x90\x80\x80", "\xf5\x80\x80\x80", "\xf7\xbf\xbf\xbf", "\xf8\x88\x80\x80\x80", "\xfc\x84\x80\x80\x80\x80",
	}
}

// P9.1: ErrForm, wherever the fault stands, and ahead of ErrLong.
func TestHashOfNoUTF8(t *testing.T) {
	long := strings.Repeat(one, 300)
	for _, bad := range invalid() {
		for _, secret := range []string{bad, one + bad, bad + one, two + bad + two, long + bad, bad + long, long[:255] + bad + two} {
			got, err := chap.Hash(secret)
			wantError(t, fmt.Sprintf("P9.1: Hash(%q)", secret), got, err, api.ErrForm)
		}
	}
}

// P9.1: two bytes are valid if both are letters by themselves, or if they encode 80 to 7FF.
func TestHashOfEachTwoBytes(t *testing.T) {
	for first := range 256 {
		for second := range 256 {
			secret := string([]byte{byte(first), byte(second)})
			got, err := chap.Hash(secret)
			what := fmt.Sprintf("P9.1: Hash(%q)", secret)
			switch {
			case first < 0x80 && second < 0x80:
				wantBytes(t, what, got, err, modelHash(string(rune(first))+string(rune(second))))
			case first >= 0xc2 && first < 0xe0 && second >= 0x80 && second < 0xc0:
				wantBytes(t, what, got, err, modelHash(string(rune(first&31<<6|second&63))))
			default:
				wantError(t, what, got, err, api.ErrForm)
			}
		}
	}
}

// P9.1: any bytes, most of them no UTF-8: a text that is put together again from its code points is valid.
func TestHashOfRandomBytes(t *testing.T) {
	r := rand.New(rand.NewPCG(9, 2))
	starts := []byte{'a', 0xc3, 0xe1, 0xed, 0xef, 0xf0, 0xf4}
	for range 20000 {
		b := randomBytes(r, 1+r.IntN(5))
		for i := range b {
			if b[i] &= 0xbf; r.IntN(3) == 0 {
				b[i] = starts[r.IntN(len(starts))]
			}
		}
		secret := string(b)
		got, err := chap.Hash(secret)
		what := fmt.Sprintf("P9.1: Hash(%q)", secret)
		if string([]rune(secret)) == secret {
			wantBytes(t, what, got, err, modelHash(secret))
		} else {
			wantError(t, what, got, err, api.ErrForm)
		}
	}
}
