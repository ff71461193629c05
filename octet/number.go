package octet

import (
	"strconv"

	"steward/api"
)

const (
	decBase, maxDec = 10, 10
	hexBase, maxHex = 16, 8
)

// Dec returns the value of 1 to 10 decimal digits, if it is at most most.
func Dec(s string, most int) (int, api.Errno) {
	if len(s) > maxDec || !all(s, inDec) {
		return 0, api.ErrForm
	}
	return number(s, decBase, most)
}

// Hex returns the value of 1 to 8 hexadecimal digits, if it is at most most.
func Hex(s string, most int) (int, api.Errno) {
	if len(s) > maxHex || !all(s, inHex) {
		return 0, api.ErrForm
	}
	return number(s, hexBase, most)
}

// Digits returns n, or 0 if it is negative, in decimal.
func Digits(n int) string {
	return strconv.Itoa(max(n, 0))
}

// HexDigits returns n, or 0 if it is negative, in hexadecimal.
func HexDigits(n int) string {
	return strconv.FormatInt(int64(max(n, 0)), hexBase)
}

// number returns the value of digits of the base, if there are any and it is at most most.
// Its callers limit how many there are, so that it never exceeds an int64.
func number(digits string, base, most int) (int, api.Errno) {
	n, err := strconv.ParseInt(digits, base, 64)
	if err != nil {
		return 0, api.ErrForm
	}
	if n > int64(most) {
		return 0, api.ErrBig
	}
	return int(n), api.OK
}
