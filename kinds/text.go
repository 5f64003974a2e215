package kinds

import (
	"math"
	"slices"
	"strconv"
	"strings"

	"concord/api"
)

// names are the first words of the values' texts.
var names = [...]string{KindFlag: "flag", KindReal: "real", KindTally: "tally", KindRunes: "runes", KindCorner: "corner"}

// The second word of a flag.
const (
	onWord  = "on"
	offWord = "off"
)

// behindBits is how many bits of a float stand behind the point.
const behindBits = 52

// leastExponent is that of the small floats, which have no 1 ahead of the point.
const leastExponent = -1022

// Print is a value as a text that people read.
func Print(value string) (string, api.Errno) {
	t, is := take(value)
	if !is {
		return "", api.ErrKind
	}
	words := append([]string{names[t.kind]}, t.words()...)
	return strings.Join(words, " "), api.OK
}

// Parse is the value whose text it is. The words are read without being strict: what is printed otherwise than it stands here is no value's text.
func Parse(text string) (string, api.Errno) {
	words := strings.SplitN(text, " ", api.MaxValue) // a value has no more words than bytes; further blanks stay in the last word, which is none then
	value := readWords(kindNamed(words[0]), words[1:]).told()
	if printed, e := Print(value); e != api.OK || printed != text {
		return "", api.ErrForm
	}
	return value, api.OK
}

// words are those behind the first one.
func (t typed) words() []string {
	var words []string
	switch t.kind {
	case KindFlag:
		if t.on {
			return []string{onWord}
		}
		return []string{offWord}
	case KindTally:
		return t.tally.words()
	case KindRunes:
		for _, x := range t.runes {
			words = append(words, strconv.FormatInt(int64(x), 16))
		}
	case KindReal, KindCorner:
		for _, x := range t.floats {
			words = append(words, floatText(x))
		}
	}
	return words
}

// kindNamed is the kind with this first word; 0, if there is none.
func kindNamed(name string) uint8 {
	for kind, x := range names {
		if x == name {
			return uint8(kind)
		}
	}
	return 0
}

// readWords is what the words behind the first one tell, if they are a value's.
func readWords(kind uint8, words []string) typed {
	t := typed{kind: kind, on: slices.Contains(words, onWord)}
	for _, word := range words {
		switch kind {
		case KindTally:
			t.tally.read(word)
		case KindRunes:
			x, _ := strconv.ParseUint(word, 16, 32)
			t.runes = append(t.runes, rune(x))
		case KindReal, KindCorner:
			x, _ := strconv.ParseFloat(word, 64)
			t.floats = append(t.floats, x)
		}
	}
	return t
}

// words are those of the replicas that counted.
func (t tally) words() []string {
	var words []string
	for i, c := range t {
		if c != (counts{}) {
			words = append(words, strconv.Itoa(i+1)+"+"+strconv.Itoa(int(c[up]))+"-"+strconv.Itoa(int(c[down])))
		}
	}
	return words
}

// read sets what a word tells, if it is a tally's.
func (t *tally) read(word string) {
	replica, rest, _ := strings.Cut(word, "+")
	ups, downs, _ := strings.Cut(rest, "-")
	t.set(int(small(replica)), small(ups), small(downs))
}

// small is the number that digits tell, if it is a count's.
func small(digits string) uint16 {
	n, _ := strconv.ParseUint(digits, 10, 16)
	return uint16(n)
}

// floatText is the text of a float.
func floatText(x float64) string {
	if math.IsNaN(x) {
		return "nan"
	}
	sign := ""
	if math.Signbit(x) {
		sign = "-"
	}
	switch {
	case math.IsInf(x, 0):
		return sign + "inf"
	case x == 0:
		return sign + "0"
	}
	return sign + sizeText(math.Float64bits(math.Abs(x)))
}

// sizeText is the text of the float that has these bits, is above 0 and has an end.
func sizeText(bits uint64) string {
	head, exponent := "0x1", int(bits>>behindBits)+leastExponent-1
	if exponent < leastExponent {
		head, exponent = "0x0", leastExponent
	}
	const one = 1 << behindBits // ahead of the digits it keeps the noughts with which they begin
	digits := strings.TrimRight(strconv.FormatUint(one|bits&(one-1), 16)[1:], "0")
	if digits != "" {
		digits = "." + digits
	}
	power := strconv.Itoa(exponent)
	if exponent >= 0 {
		power = "+" + power
	}
	return head + digits + "p" + power
}
