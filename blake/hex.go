package blake

import "strings"

const digits = "0123456789abcdef"

// Hex returns each byte of s as two digits, the higher four bits first.
func Hex(s string) string {
	out := make([]byte, 0, 2*len(s))
	for i := range len(s) {
		out = append(out, digits[s[i]>>4], digits[s[i]&15])
	}
	return string(out)
}

// Unhex returns the bytes of which s is the Hex, or false if it is the Hex of none.
func Unhex(s string) (string, bool) {
	if len(s)%2 != 0 {
		return "", false
	}
	out := make([]byte, len(s)/2)
	for i := range len(out) {
		high := strings.IndexByte(digits, s[2*i])
		low := strings.IndexByte(digits, s[2*i+1])
		if high < 0 || low < 0 {
			return "", false
		}
		out[i] = byte(high<<4 | low)
	}
	return string(out), true
}
