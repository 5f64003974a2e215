package kinds_test

import (
	"fmt"
	"maps"
	"math"
	"regexp"
	"slices"
	"strconv"
	"strings"
	"unicode/utf8"

	"concord/api"
)

// The oracle cuts a value's bytes by hand; it shares nothing with the package or with wire.

// wantKind is a text's kind.
func wantKind(s string) uint8 {
	if s == "" {
		return 0
	}
	is, rest := false, s[1:]
	switch s[0] {
	case 1:
		is = rest == "\x00" || rest == "\x01"
	case 2:
		is = len(rest) == 8 && isFloat(rest)
	case 3:
		is = isTally(rest)
	case 4:
		is = isSet(rest)
	case 5:
		is = len(rest) == 16 && isFloat(rest[:8]) && isFloat(rest[8:])
	}
	if !is {
		return 0
	}
	return s[0]
}

// isFloat tells whether eight bytes are a float's: of the NaNs, one.
func isFloat(s string) bool { return floatBytes(floatOf(s)) == s }

func floatOf(s string) float64 { return math.Float64frombits(numberOf(s)) }

func numberOf(s string) uint64 {
	var n uint64
	for _, b := range []byte(s) {
		n = n*256 + uint64(b)
	}
	return n
}

func isTally(s string) bool {
	last := byte(0)
	for len(s) >= 5 {
		if s[0] <= last || s[0] > 5 || s[1:5] == "\x00\x00\x00\x00" {
			return false
		}
		last, s = s[0], s[5:]
	}
	return s == ""
}

func isSet(s string) bool {
	if len(s) > 39 || !utf8.ValidString(s) {
		return false
	}
	l := []rune(s)
	for i := 1; i < len(l); i++ {
		if l[i-1] >= l[i] {
			return false
		}
	}
	return true
}

// rank is a float's place in the order of floats.
func rank(x float64) int64 {
	bits := int64(math.Float64bits(x))
	switch {
	case x != x:
		return math.MaxInt64
	case bits < 0:
		return math.MinInt64 - bits - 1 // -0 is just below +0
	}
	return bits
}

func greaterOf(a, b string) string {
	if rank(floatOf(a)) < rank(floatOf(b)) {
		return b
	}
	return a
}

// tallyOf are the ups and downs by replica.
func tallyOf(rest string) map[byte][2]uint64 {
	m := map[byte][2]uint64{}
	for ; rest != ""; rest = rest[5:] {
		m[rest[0]] = [2]uint64{numberOf(rest[1:3]), numberOf(rest[3:5])}
	}
	return m
}

func tallyBytes(m map[byte][2]uint64) string {
	out := "\x03"
	for _, replica := range slices.Sorted(maps.Keys(m)) {
		c := m[replica]
		if c[0]+c[1] > 0 {
			out += string([]byte{replica, byte(c[0] >> 8), byte(c[0]), byte(c[1] >> 8), byte(c[1])})
		}
	}
	return out
}

func setBytes(l []rune) string {
	set := map[rune]bool{}
	for _, x := range l {
		set[x] = true
	}
	return "\x04" + string(slices.Sorted(maps.Keys(set)))
}

// wantJoin is the join of two texts, and its error.
func wantJoin(a, b string) (string, api.Errno) {
	kind := wantKind(a)
	if kind == 0 || kind != wantKind(b) {
		return "", 120
	}
	s := ""
	switch kind {
	case 1:
		s = max(a, b)
	case 2:
		s = "\x02" + greaterOf(a[1:], b[1:])
	case 3:
		m := tallyOf(a[1:])
		for replica, c := range tallyOf(b[1:]) {
			m[replica] = [2]uint64{max(m[replica][0], c[0]), max(m[replica][1], c[1])}
		}
		s = tallyBytes(m)
	case 4:
		s = setBytes([]rune(a[1:] + b[1:]))
	case 5:
		s = "\x05" + greaterOf(a[1:9], b[1:9]) + greaterOf(a[9:], b[9:])
	}
	if len(s) > 40 {
		return "", 82
	}
	return s, 0
}

// wantStep is a tally behind a step, and its error.
func wantStep(value string, replica uint8, by int) (string, api.Errno) {
	if wantKind(value) != 3 {
		return "", 120
	}
	if replica == 0 || replica > 5 {
		return "", 1
	}
	m := tallyOf(value[1:])
	c := m[replica]
	if by >= 0 {
		c[0] += uint64(by)
	} else {
		c[1] += uint64(-by)
	}
	if max(c[0], c[1]) > 65535 {
		return "", 101
	}
	m[replica] = c
	return tallyBytes(m), 0
}

// wantFloat is a float's text: that of the library, its exponent without noughts ahead; the small floats by their bits.
func wantFloat(x float64) string {
	switch {
	case x != x:
		return "nan"
	case x > math.MaxFloat64:
		return "inf"
	case x < -math.MaxFloat64:
		return "-inf"
	case x == 0:
		return fmt.Sprintf("%.0f", x)
	case math.Abs(x) < 0x1p-1022:
		s := fmt.Sprintf("0x0.%013x", math.Float64bits(math.Abs(x)))
		return strings.Repeat("-", int(math.Float64bits(x)>>63)) + strings.TrimRight(s, "0") + "p-1022"
	}
	head, power, _ := strings.Cut(strconv.FormatFloat(x, 'x', -1, 64), "p")
	n, err := strconv.Atoi(power)
	if err != nil {
		panic(power)
	}
	return fmt.Sprintf("%sp%+d", head, n)
}

// wantPrint is a value's text, and its error.
func wantPrint(value string) (string, api.Errno) {
	switch wantKind(value) {
	case 1:
		return map[string]string{"\x01\x00": "flag off", "\x01\x01": "flag on"}[value], 0
	case 2:
		return "real " + wantFloat(floatOf(value[1:])), 0
	case 3:
		out := "tally"
		m := tallyOf(value[1:])
		for _, replica := range slices.Sorted(maps.Keys(m)) {
			out += fmt.Sprintf(" %d+%d-%d", replica, m[replica][0], m[replica][1])
		}
		return out, 0
	case 4:
		out := "runes"
		for _, x := range value[1:] {
			out += fmt.Sprintf(" %x", x)
		}
		return out, 0
	case 5:
		return "corner " + wantFloat(floatOf(value[1:9])) + " " + wantFloat(floatOf(value[9:])), 0
	}
	return "", 120
}

const (
	powerForm = `\+(0|[1-9]\d{0,2}|10[01]\d|102[0-3])|-([1-9]\d{0,2}|10[01]\d|102[0-2])`
	floatForm = `(nan|-?(inf|0|0x1(\.[0-9a-f]{0,12}[1-9a-f])?p(` + powerForm + `)|0x0\.[0-9a-f]{0,12}[1-9a-f]p-1022))`
	countForm = `(0|[1-9]\d{0,3}|[1-5]\d{4}|6[0-4]\d{3}|65[0-4]\d\d|655[0-2]\d|6553[0-5])`
)

var forms = regexp.MustCompile(`^(flag (on|off)|real ` + floatForm + `|corner ` + floatForm + ` ` + floatForm +
	`|tally( [1-5]\+` + countForm + `-` + countForm + `)*|runes( (0|[1-9a-f][0-9a-f]{0,5}))*)$`)

// isText tells whether a text is a value's, without saying which.
func isText(text string) bool {
	if !forms.MatchString(text) || strings.Contains(text, "+0-0") {
		return false
	}
	words := strings.Split(text, " ")
	last, bytes := int64(-1), 0
	for _, w := range words[1:] {
		n := last + 1
		switch words[0] {
		case "tally":
			n = int64(w[0])
		case "runes":
			n, _ = strconv.ParseInt(w, 16, 64)
			if n > 0x10ffff || n >= 0xd800 && n <= 0xdfff {
				return false
			}
			bytes += len(string(rune(n)))
		}
		if n <= last {
			return false
		}
		last = n
	}
	return bytes <= 39
}
