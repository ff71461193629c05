package octet_test

import (
	"math"
	"strings"
	"testing"

	"steward/api"
	"steward/octet"
)

const (
	decBytes = "0123456789"
	hexBytes = decBytes + "abcdef" + "ABCDEF"
)

// reader is Dec or Hex.
type reader func(s string, most int) (int, api.Errno)

// reads checks that a number is read, with the error.
func reads(t *testing.T, read reader, s string, most, want int, e api.Errno) {
	t.Helper()
	if got, err := read(s, most); got != want || err != e {
		t.Errorf("%q, at most %d: %d, error %d; want %d, error %d", s, most, got, err, want, e)
	}
}

// P5.1: Dec of numbers, with leading zeros.
func TestDec(t *testing.T) {
	for s, want := range map[string]int{"0": 0, "7": 7, "10": 10, "013": 13, "0000000000": 0, "0000000001": 1, "1234567890": 1234567890, "4294967296": 1 << 32, "9999999999": 9999999999} {
		reads(t, octet.Dec, s, math.MaxInt, want, api.OK)
	}
}

// P5.1: Hex of numbers, with leading zeros and letters of both cases.
func TestHex(t *testing.T) {
	for s, want := range map[string]int{"0": 0, "7": 7, "10": 16, "0aF": 175, "00000000": 0, "00000001": 1, "1F": 31, "abcdef": 0xabcdef, "ABCDEF": 0xabcdef, "12345678": 0x12345678, "9abcDEF0": 0x9abcdef0, "ffffffff": 1<<32 - 1, "FFFFFFFF": 1<<32 - 1} {
		reads(t, octet.Hex, s, math.MaxInt, want, api.OK)
	}
}

// P5.1: each byte, wherever it is in a number.
func TestNumbersOfEachByte(t *testing.T) {
	every(func(c string) {
		dec, hex := strings.Index(decBytes, c), strings.Index(hexBytes, c)
		if hex >= 16 {
			hex -= 6
		}
		if dec >= 0 {
			reads(t, octet.Dec, c, 9, dec, api.OK)
			reads(t, octet.Dec, "1"+c+"1", 999, 101+10*dec, api.OK)
		} else {
			reads(t, octet.Dec, c, 9, 0, api.ErrForm)
			reads(t, octet.Dec, c+"1", 9, 0, api.ErrForm)
			reads(t, octet.Dec, "1"+c+"1", 999, 0, api.ErrForm)
			reads(t, octet.Dec, "000000001"+c, 9, 0, api.ErrForm)
		}
		if hex >= 0 {
			reads(t, octet.Hex, c, 15, hex, api.OK)
			reads(t, octet.Hex, "1"+c+"1", 0xfff, 0x101+16*hex, api.OK)
		} else {
			reads(t, octet.Hex, c, 15, 0, api.ErrForm)
			reads(t, octet.Hex, c+"1", 15, 0, api.ErrForm)
			reads(t, octet.Hex, "1"+c+"1", 0xfff, 0, api.ErrForm)
			reads(t, octet.Hex, "0000001"+c, 15, 0, api.ErrForm)
		}
	})
}

// P5.1: no digits, too many of them even if they are zeros, and forms that other readers of numbers accept.
func TestNumbersOfAnotherForm(t *testing.T) {
	for _, s := range []string{"", "00000000000", "00000000001", "12345678901", strings.Repeat("9", 100), "+1", "-1", "-0", " 1", "1 ", "1_0", "0x1", "0b1", "1e3", "1.", "1,2", "a", "\u0661", "\uff11"} {
		reads(t, octet.Dec, s, math.MaxInt, 0, api.ErrForm)
	}
	for _, s := range []string{"", "000000000", "000000001", "123456789", strings.Repeat("f", 100), "+1", "-1", "-0", " 1", "1 ", "1_0", "0x1", "0X1", "g", "1h", "\u0661", "\uff21"} {
		reads(t, octet.Hex, s, math.MaxInt, 0, api.ErrForm)
	}
}

// P5.1: a value that is greater than most is ErrBig, for any most.
func TestNumbersThatAreBig(t *testing.T) {
	for _, most := range []int{0, 1, 9, 10, 30, 99, 255, 4294967294, 4294967295} {
		reads(t, octet.Dec, octet.Digits(most), most, most, api.OK)
		reads(t, octet.Dec, octet.Digits(most+1), most, 0, api.ErrBig)
		reads(t, octet.Hex, octet.HexDigits(most), most, most, api.OK)
		reads(t, octet.Hex, octet.HexDigits(most), most-1, 0, api.ErrBig)
	}
	reads(t, octet.Hex, "1F", 31, 31, api.OK)
	reads(t, octet.Hex, "1F", 30, 0, api.ErrBig)
	reads(t, octet.Dec, "9999999999", 9999999999, 9999999999, api.OK)
	reads(t, octet.Dec, "9999999999", 9999999998, 0, api.ErrBig)
	reads(t, octet.Dec, "0000000002", 1, 0, api.ErrBig)
	for _, most := range []int{-1, -100, math.MinInt} {
		reads(t, octet.Dec, "0", most, 0, api.ErrBig)
		reads(t, octet.Hex, "0", most, 0, api.ErrBig)
	}
}

// Rule 2: ErrForm precedes ErrBig.
func TestFormPrecedesBig(t *testing.T) {
	for _, s := range []string{"", "99x", "x99", "99999999999"} {
		reads(t, octet.Dec, s, 9, 0, api.ErrForm)
		reads(t, octet.Dec, s, -1, 0, api.ErrForm)
	}
	for _, s := range []string{"", "ffx", "xff", "fffffffff"} {
		reads(t, octet.Hex, s, 9, 0, api.ErrForm)
		reads(t, octet.Hex, s, -1, 0, api.ErrForm)
	}
}

// P5.1: Digits and HexDigits, for all kinds of numbers.
func TestDigits(t *testing.T) {
	for _, c := range []struct {
		n        int
		dec, hex string
	}{
		{0, "0", "0"}, {9, "9", "9"}, {10, "10", "a"}, {15, "15", "f"}, {16, "16", "10"}, {255, "255", "ff"}, {4096, "4096", "1000"}, {0xabcdef, "11259375", "abcdef"},
		{math.MaxInt32, "2147483647", "7fffffff"}, {math.MaxInt64, "9223372036854775807", "7fffffffffffffff"},
		{-1, "0", "0"}, {-10, "0", "0"}, {math.MinInt64, "0", "0"},
	} {
		if got := octet.Digits(c.n); got != c.dec {
			t.Errorf("Digits of %d: %s", c.n, got)
		}
		if got := octet.HexDigits(c.n); got != c.hex {
			t.Errorf("HexDigits of %d: %s", c.n, got)
		}
	}
}

// returns checks that n is written and read back, in capital letters and with leading zeros too.
func returns(t *testing.T, n int) {
	t.Helper()
	dec, hex := octet.Digits(n), octet.HexDigits(n)
	reads(t, octet.Dec, dec, n, n, api.OK)
	reads(t, octet.Dec, strings.Repeat("0", 10-len(dec))+dec, n, n, api.OK)
	if n < 1<<32 {
		reads(t, octet.Hex, hex, n, n, api.OK)
		reads(t, octet.Hex, strings.ToUpper(hex), n, n, api.OK)
		reads(t, octet.Hex, strings.Repeat("0", 8-len(hex))+hex, n, n, api.OK)
	}
}

// P5.2: numbers are read back: all small ones, and those around the greatest ones and around powers of 2 and 10.
func TestNumbersReturn(t *testing.T) {
	for n := range 70000 {
		returns(t, n)
	}
	for _, powers := range [][2]int{{2, 1 << 33}, {10, 9999999999}} {
		for n := 1; n <= powers[1]; n *= powers[0] {
			returns(t, n-1)
			returns(t, n)
			returns(t, n+1)
		}
	}
	returns(t, 9999999999)
	for n := 12345; n < 9999999999; n += 7654321 {
		returns(t, n)
	}
}
