package blake_test

import (
	"encoding/hex"
	"testing"

	"steward/blake"
)

// P2.1: Hex of every byte, the higher four bits first; Unhex is its reverse.
func TestHexOfEveryByte(t *testing.T) {
	all := make([]byte, 256)
	for i := range all {
		all[i] = byte(i)
		one := string(all[i : i+1])
		if got, want := blake.Hex(one), hex.EncodeToString([]byte(one)); got != want {
			t.Errorf("%q: %s, want %s", one, got, want)
		}
	}
	digits := blake.Hex(string(all))
	if digits != hex.EncodeToString(all) {
		t.Error(digits)
	}
	if s, ok := blake.Unhex(digits); !ok || s != string(all) {
		t.Errorf("%q, %v", s, ok)
	}
}

// P2.1: no bytes have no digits.
func TestHexOfNothing(t *testing.T) {
	if got := blake.Hex(""); got != "" {
		t.Errorf("%q", got)
	}
	if s, ok := blake.Unhex(""); !ok || s != "" {
		t.Errorf("%q, %v", s, ok)
	}
}

// P2.1: of all pairs of bytes, Unhex takes exactly those that are the Hex of a byte.
func TestUnhexOfEveryPair(t *testing.T) {
	whose := map[string]int{}
	for i := range 256 {
		whose[blake.Hex(string([]byte{byte(i)}))] = i + 1
	}
	for i := range 1 << 16 {
		pair := string([]byte{byte(i >> 8), byte(i)})
		s, ok := blake.Unhex(pair)
		want := ""
		if whose[pair] > 0 {
			want = string([]byte{byte(whose[pair] - 1)})
		}
		if ok != (whose[pair] > 0) || s != want {
			t.Fatalf("%q: %q, %v", pair, s, ok)
		}
	}
}

// P2.1, rule 3: what is no Hex gives no bytes, even if it begins like one.
func TestUnhexOfOtherTexts(t *testing.T) {
	for _, s := range []string{"0", "000", "00ff0", "0G", "g0", "AB", "aB", "00FF", "00ffx0", "00ff0x", " 00", "00 ", "0x00", "00\n", "-1", "+1", "é", "00\x00\x00", "/0", ":0", "`0"} {
		if got, ok := blake.Unhex(s); ok || got != "" {
			t.Errorf("%q: %q, %v", s, got, ok)
		}
	}
}
