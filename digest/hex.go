package digest

import (
	"strings"

	"concord/api"
)

const digits = "0123456789abcdef"

// Hex is a text's bytes in hexadecimal digits.
func Hex(s string) string {
	var out strings.Builder
	out.Grow(2 * len(s))
	for i := range len(s) {
		out.WriteByte(digits[s[i]>>4])
		out.WriteByte(digits[s[i]&15])
	}
	return out.String()
}

// FromHex is the text whose Hex it is.
func FromHex(s string) (string, api.Errno) {
	if len(s)%2 != 0 {
		return "", api.ErrForm
	}
	out := make([]byte, len(s)/2)
	for i := range len(s) {
		half := strings.IndexByte(digits, s[i])
		if half < 0 {
			return "", api.ErrForm
		}
		out[i/2] <<= 4
		out[i/2] |= byte(half)
	}
	return string(out), api.OK
}
