package des_test

import (
	"bytes"
	library "crypto/des"
	"encoding/hex"
	"fmt"
	"math/rand/v2"
	"strings"
	"testing"

	"fairlead/api"
	"fairlead/des"
)

// unhex is the bytes of digits, which may stand in groups.
func unhex(t *testing.T, digits string) []byte {
	t.Helper()
	b, err := hex.DecodeString(strings.ReplaceAll(digits, " ", ""))
	if err != nil {
		t.Fatal(err)
	}
	return b
}

// withParity is a key of 8 bytes for the library: seven bits a byte, and a bit that counts for nothing.
func withParity(key []byte) []byte {
	var v uint64
	for _, x := range key {
		v = v<<8 | uint64(x)
	}
	out := make([]byte, 8)
	for i := range out {
		out[i] = byte(v>>(49-7*i))<<1 | byte(i&1)
	}
	return out
}

// withoutParity is a published key of 8 bytes without the last bit of each.
func withoutParity(key []byte) []byte {
	var v uint64
	for _, x := range key {
		v = v<<7 | uint64(x>>1)
	}
	out := make([]byte, 7)
	for i := range out {
		out[i] = byte(v >> (48 - 8*i))
	}
	return out
}

func model(t *testing.T, key, block []byte) []byte {
	t.Helper()
	c, err := library.NewCipher(withParity(key))
	if err != nil {
		t.Fatal(err)
	}
	out := make([]byte, 8)
	c.Encrypt(out, block)
	return out
}

func wantBlock(t *testing.T, key, block, want []byte) {
	t.Helper()
	got, err := des.Encrypt(key, block)
	if err != api.OK || !bytes.Equal(got, want) {
		t.Errorf("P8.1: key %X, block %X: %X, error %d, want %X", key, block, got, err, want)
	}
}

// wantModel holds the block against the library's, twice, with the first one
// overwritten in between, and the arguments, up to their capacities, against what they were.
func wantModel(t *testing.T, key, block []byte) {
	t.Helper()
	keyBefore, blockBefore := bytes.Clone(key[:cap(key)]), bytes.Clone(block[:cap(block)])
	want := model(t, key, block)
	for range 2 {
		got, err := des.Encrypt(key, block)
		if err != api.OK || !bytes.Equal(got, want) {
			t.Errorf("P8.1: key %X, block %X: %X, error %d, want %X", key, block, got, err, want)
		}
		clear(got[:cap(got)])
		if !bytes.Equal(key[:cap(key)], keyBefore) || !bytes.Equal(block[:cap(block)], blockBefore) {
			t.Fatalf("R4: key %X, block %X: an argument changed", key, block)
		}
	}
}

// P8.1: the chapter's example, and blocks of another program with keys that have no parity bits.
func TestEncryptOfKnownBlocks(t *testing.T) {
	for _, c := range []struct{ key, block, want string }{
		{"12695BC9B7B7F8", "0123456789ABCDEF", "85E813540F0AB405"},
		{"00000000000000", "0000000000000000", "8CA64DE9C1B123A7"},
		{"FFFFFFFFFFFFFF", "FFFFFFFFFFFFFFFF", "7359B2163E4EDC58"},
		{"00000000000000", "FFFFFFFFFFFFFFFF", "355550B2150E2451"},
		{"FFFFFFFFFFFFFF", "0000000000000000", "CAAAAF4DEAF1DBAE"},
		{"00000000000001", "0000000000000000", "869EFD7F9F265A09"},
		{"80000000000000", "0000000000000000", "95A8D72813DAA94D"},
		{"00000000000000", "8000000000000000", "95F8A5E5DD31D900"},
		{"00000000000000", "0000000000000001", "166B40B44ABA4BD6"},
		{"0123456789ABCD", "0011223344556677", "29F4FD5176573A9D"},
		{"FEDCBA98765432", "8899AABBCCDDEEFF", "9181E18BA3B8B3DF"},
	} {
		wantBlock(t, unhex(t, c.key), unhex(t, c.block), unhex(t, c.want))
	}
}

// P8.1: published blocks that ask for every entry of the S-boxes, with keys that have parity bits.
func TestEncryptOfPublishedBlocks(t *testing.T) {
	for _, line := range []string{
		"7CA110454A1A6E57 01A1D6D039776742 690F5B0D9A26939B",
		"0131D9619DC1376E 5CD54CA83DEF57DA 7A389D10354BD271",
		"07A1133E4A0B2686 0248D43806F67172 868EBB51CAB4599A",
		"3849674C2602319E 51454B582DDF440A 7178876E01F19B2A",
		"04B915BA43FEB5B6 42FD443059577FA2 AF37FB421F8C4095",
		"0113B970FD34F2CE 059B5E0851CF143A 86A560F10EC6D85B",
		"0170F175468FB5E6 0756D8E0774761D2 0CD3DA020021DC09",
		"43297FAD38E373FE 762514B829BF486A EA676B2CB7DB2B7A",
		"07A7137045DA2A16 3BDD119049372802 DFD64A815CAF1A0F",
		"04689104C2FD3B2F 26955F6835AF609A 5C513C9C4886C088",
		"37D06BB516CB7546 164D5E404F275232 0A2AEEAE3FF4AB77",
		"1F08260D1AC2465E 6B056E18759F5CCA EF1BF03E5DFA575A",
		"584023641ABA6176 004BD6EF09176062 88BF0DB6D70DEE56",
		"025816164629B007 480D39006EE762F2 A1F9915541020B56",
		"49793EBC79B3258F 437540C8698F3CFA 6FBF1CAFCFFD0556",
		"4FB05E1515AB73A7 072D43A077075292 2F22E49BAB7CA1AC",
		"49E95D6D4CA229BF 02FE55778117F12A 5A6B612CC26CCE4A",
		"018310DC409B26D6 1D9D5C5018F728C2 5F4C038ED12B2E41",
		"1C587F1C13924FEF 305532286D6F295A 63FAC0D034D9F793",
	} {
		f := strings.Fields(line)
		wantBlock(t, withoutParity(unhex(t, f[0])), unhex(t, f[1]), unhex(t, f[2]))
	}
}

// P8.1: each bit of a key and of a block by itself, set alone and left out alone,
// and changed within other bits.
func TestEncryptOfEachBit(t *testing.T) {
	r := rand.NewChaCha8([32]byte{8})
	otherKey, otherBlock := make([]byte, 7), make([]byte, 8)
	r.Read(otherKey)
	r.Read(otherBlock)
	keys := [][]byte{make([]byte, 7), bytes.Repeat([]byte{0xff}, 7), otherKey}
	blocks := [][]byte{make([]byte, 8), bytes.Repeat([]byte{0xff}, 8), otherBlock}
	for _, key := range keys {
		for _, block := range blocks {
			seen := map[string]bool{}
			for _, l := range [][]byte{key, block} {
				for i := range 8 * len(l) {
					mask := byte(1) << (i % 8)
					l[i/8] ^= mask
					wantModel(t, key, block)
					out, _ := des.Encrypt(key, block)
					seen[string(out)] = true
					l[i/8] ^= mask
				}
			}
			if len(seen) != 56+64 {
				t.Errorf("P8.1: key %X, block %X: a bit more or less makes %d blocks, want 120", key, block, len(seen))
			}
		}
	}
}

// P8.1: any keys and blocks, with other bytes behind them.
func TestEncryptOfRandomBlocks(t *testing.T) {
	r := rand.NewChaCha8([32]byte{80})
	b := make([]byte, 40)
	for range 3000 {
		r.Read(b)
		wantModel(t, b[2:9], b[20:28])
	}
}

// P8.1: an encrypted block serves as the next block, and its first bytes as the next key.
func TestEncryptInAChain(t *testing.T) {
	key, block := unhex(t, "0E329232EA6D0D"), unhex(t, "8787878787878787")
	wantBlock(t, withoutParity(unhex(t, "0E329232EA6D0D73")), block, make([]byte, 8))
	for range 1000 {
		wantModel(t, key, block)
		block, _ = des.Encrypt(key, block)
		key = bytes.Clone(block[:7])
	}
}

// P8.1: with the key and the block turned to their opposite bits, the result is, too.
func TestEncryptOfOppositeBits(t *testing.T) {
	r := rand.NewChaCha8([32]byte{88})
	opposite := func(b []byte) []byte {
		out := make([]byte, len(b))
		for i, x := range b {
			out[i] = ^x
		}
		return out
	}
	for range 100 {
		key, block := make([]byte, 7), make([]byte, 8)
		r.Read(key)
		r.Read(block)
		out, _ := des.Encrypt(key, block)
		wantBlock(t, opposite(key), opposite(block), opposite(out))
	}
}

// P8.1: under a key whose round keys are alike, the result turns back into the block.
func TestEncryptUnderWeakKeys(t *testing.T) {
	block := unhex(t, "0123456789ABCDEF")
	for _, key := range []string{"0101010101010101", "FEFEFEFEFEFEFEFE", "E0E0E0E0F1F1F1F1", "1F1F1F1F0E0E0E0E"} {
		k := withoutParity(unhex(t, key))
		wantModel(t, k, block)
		out, _ := des.Encrypt(k, block)
		wantBlock(t, k, out, block)
	}
}

// P8.1 with R4: the key and the block may share memory.
func TestEncryptOfSharedMemory(t *testing.T) {
	b := unhex(t, "0123456789ABCDEF1032547698BADCFE")
	for n := range 9 {
		wantModel(t, b[n:n+7], b[:8])
		wantModel(t, b[:7], b[n:n+8])
	}
}

// P8.1: ErrArg for each other length of a key or of a block, with R2, R3 and R4.
func TestEncryptOfOtherLengths(t *testing.T) {
	b := unhex(t, strings.Repeat("0123456789ABCDEF", 9))
	lengths := []int{-1, 0, 1, 2, 3, 4, 5, 6, 7, 8, 9, 10, 14, 15, 16, 24, 64, 72}
	part := func(n int) []byte {
		if n < 0 {
			return nil
		}
		return b[:n]
	}
	for _, keyLength := range lengths {
		for _, blockLength := range lengths {
			key, block := part(keyLength), part(blockLength)
			if keyLength == 7 && blockLength == 8 {
				wantModel(t, key, block)
				continue
			}
			before := bytes.Clone(b)
			out, err := des.Encrypt(key, block)
			if err != api.ErrArg || len(out) != 0 {
				t.Errorf("P8.1: %d bytes under a key of %d: %X, error %d, want no bytes, error %d", len(block), len(key), out, err, api.ErrArg)
			}
			if !bytes.Equal(b, before) {
				t.Fatal("R4: an argument changed")
			}
		}
	}
}

// P8.1 with R4: a result does not change with the arguments.
func TestEncryptKeepsNoArgument(t *testing.T) {
	key, block := unhex(t, "12695BC9B7B7F8"), unhex(t, "0123456789ABCDEF")
	out, _ := des.Encrypt(key, block)
	clear(key)
	clear(block)
	if fmt.Sprintf("%X", out) != "85E813540F0AB405" {
		t.Errorf("R4: the result changed with the arguments: %X", out)
	}
}
