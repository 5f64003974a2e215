package kinds_test

import (
	"math"
	"math/rand"
	"strings"
	"unicode/utf8"

	"concord/api"
)

const (
	noughts = "\x00\x00\x00\x00\x00\x00\x00\x00"
	theNaN  = "\x7f\xf8\x00\x00\x00\x00\x00\x00"
)

var (
	negativeNought = math.Copysign(0, -1)
	inf            = math.Inf(1)
)

// floats are some at the edges, rising in the order of floats.
func floats() []float64 {
	const least, normal = math.SmallestNonzeroFloat64, 0x1p-1022
	return []float64{
		-inf, -math.MaxFloat64, -0x1p1023, -1e300, -3, -2, math.Nextafter(-1, -2), -1, -0.75, -0.1, -0x1p-1021, math.Nextafter(-normal, -1), -normal, math.Nextafter(-normal, 0), -0x1p-1023, -2 * least, -least, negativeNought,
		0, least, 2 * least, 0x1p-1023, math.Nextafter(normal, 0), normal, math.Nextafter(normal, 1), 0x1p-1021, 0.1, 0.75, 1, math.Nextafter(1, 2), 2, 3, 1e300, 0x1p1023, math.MaxFloat64, inf, math.NaN(),
	}
}

// nans are some of the rows of bits that are NaNs.
func nans() []float64 {
	var l []float64
	for _, bits := range []uint64{0x7ff8000000000000, 0x7ff0000000000001, 0x7ff8000000000001, 0x7fffffffffffffff, 0xfff8000000000000, 0xfff0000000000001, 0xffffffffffffffff} {
		l = append(l, math.Float64frombits(bits))
	}
	return l
}

// values are some of each kind, at their edges.
func values() map[string]string {
	m := map[string]string{
		"flag off":            "\x01\x00",
		"flag on":             "\x01\x01",
		"tally of nobody":     "\x03",
		"tally of 1, up":      "\x03\x01\x00\x01\x00\x00",
		"tally of 1, down":    "\x03\x01\x00\x00\x00\x01",
		"tally of 1, both":    "\x03\x01\x00\x05\x00\x03",
		"tally of 1, turned":  "\x03\x01\x00\x03\x00\x05",
		"tally of 1, high":    "\x03\x01\x01\x00\xff\x00",
		"tally of 5":          "\x03\x05\x00\x02\x00\x00",
		"tally of 5 at end":   "\x03\x05\xff\xff\x00\x00",
		"tally of 1, 3":       "\x03\x01\x00\x04\x00\x00\x03\x00\x00\x00\x04",
		"tally of 2, 3, 4":    "\x03\x02\x00\x04\x00\x00\x03\x00\x07\x00\x04\x04\x80\x00\x7f\xff",
		"tally of all at end": "\x03\x01\xff\xff\xff\xff\x02\xff\xff\xff\xff\x03\xff\xff\xff\xff\x04\xff\xff\xff\xff\x05\xff\xff\xff\xff",
		"tally of all up":     "\x03\x01\xff\xff\x00\x00\x02\xff\xff\x00\x00\x03\xff\xff\x00\x00\x04\xff\xff\x00\x00\x05\xff\xff\x00\x00",
		"tally of all down":   "\x03\x01\x00\x00\xff\xff\x02\x00\x00\xff\xff\x03\x00\x00\xff\xff\x04\x00\x00\xff\xff\x05\x00\x00\xff\xff",
		"no runes":            "\x04",
		"rune 0":              "\x04\x00",
		"two runes":           "\x04A\u00e9",
		"two other runes":     "\x04BC",
		"runes with those":    "\x04ABC\u00e9",
		"the mark of no rune": "\x04\ufffd",
		"the last rune":       "\x04\U0010ffff",
		"beside what is none": "\x04\ud7ff\ue000",
		"39 runes":            "\x04" + letters(39),
		"39 runes, the last":  "\x04" + string(rising(0x7f-38, 39)),
		"19 of two bytes":     "\x04" + string(rising(0x80, 19)),
		"13 of three bytes":   "\x04" + string(rising(0x800, 13)),
		"9 of four bytes":     "\x04" + string(rising(0x10000, 9)),
		"9 of four and 3":     "\x04abc" + string(rising(0x10ffff-8, 9)),
		"runes of all kinds":  "\x04\x00\x7f\u0080\u07ff\u0800\ud7ff\ue000\uffff\U00010000\U0010ffff",
	}
	for _, x := range floats() {
		m["real "+wantFloat(x)] = "\x02" + floatBytes(x)
		m["corner 1 "+wantFloat(x)] = "\x05" + floatBytes(1) + floatBytes(x)
		m["corner "+wantFloat(x)+" 1"] = "\x05" + floatBytes(x) + floatBytes(1)
	}
	return m
}

// none are texts that are of no kind.
func none() map[string]string {
	return map[string]string{
		"nothing":                        "",
		"kind 0":                         "\x00",
		"kind 0 with a mark":             "\x00\x01",
		"kind 6":                         "\x06",
		"kind 6 with a float":            "\x06" + noughts,
		"kind 255":                       "\xff\x00",
		"kind 129":                       "\x81\x01",
		"a word":                         "plain",
		"the text of a value":            "flag on",
		"a flag cut":                     "\x01",
		"a flag of 2":                    "\x01\x02",
		"a flag of 128":                  "\x01\x80",
		"a flag of 255":                  "\x01\xff",
		"a flag with a byte more":        "\x01\x01\x00",
		"a flag twice":                   "\x01\x01\x01\x01",
		"a real cut":                     "\x02" + noughts[1:],
		"a real without bytes":           "\x02",
		"a real with a byte more":        "\x02" + noughts + "\x00",
		"a real of two floats":           "\x02" + noughts + noughts,
		"a NaN of another row":           "\x02\x7f\xf8\x00\x00\x00\x00\x00\x01",
		"a NaN with a sign":              "\x02\xff\xf8\x00\x00\x00\x00\x00\x00",
		"a NaN that signals":             "\x02\x7f\xf0\x00\x00\x00\x00\x00\x01",
		"the last NaN":                   "\x02\xff\xff\xff\xff\xff\xff\xff\xff",
		"a corner of one float":          "\x05" + noughts,
		"a corner without bytes":         "\x05",
		"a corner cut":                   "\x05" + noughts + noughts[1:],
		"a corner with a byte more":      "\x05" + noughts + noughts + "\x00",
		"a corner of three floats":       "\x05" + noughts + noughts + noughts,
		"a corner, its first no NaN":     "\x05\x7f\xf8\x00\x00\x00\x00\x00\x01" + noughts,
		"a corner, its second no NaN":    "\x05" + theNaN + "\xff\xf8\x00\x00\x00\x00\x00\x00",
		"a tally of replica 0":           "\x03\x00\x00\x01\x00\x00",
		"a tally of replica 6":           "\x03\x06\x00\x01\x00\x00",
		"a tally of replica 255":         "\x03\xff\x00\x01\x00\x00",
		"a tally with one that has not":  "\x03\x01\x00\x00\x00\x00",
		"a tally with a third that has":  "\x03\x01\x00\x01\x00\x00\x02\x00\x00\x00\x00\x03\x00\x01\x00\x00",
		"a tally that falls":             "\x03\x02\x00\x01\x00\x00\x01\x00\x01\x00\x00",
		"a tally of one twice":           "\x03\x02\x00\x01\x00\x00\x02\x00\x01\x00\x00",
		"a tally of one twice, a nought": "\x03\x02\x00\x01\x00\x00\x02\x00\x00\x00\x00",
		"a tally cut":                    "\x03\x01\x00\x01\x00",
		"a tally cut in its ups":         "\x03\x01\x00",
		"a tally of a byte more":         "\x03\x01\x00\x01\x00\x00\x02",
		"a tally of 7 rows":              "\x03" + strings.Repeat("\x01\x00\x01\x00\x00", 7),
		"runes that fall":                "\x04BA",
		"a rune twice":                   "\x04AA",
		"rune 0 twice":                   "\x04\x00\x00",
		"the first is the last":          "\x04ABCA",
		"the mark of no rune twice":      "\x04\ufffd\ufffd",
		"no UTF-8":                       "\x04\xff",
		"a part of a rune":               "\x04\xc3",
		"a part of a rune behind one":    "\x04A\xe2\x82",
		"a part of a rune between":       "\x04A\xe2\x82B",
		"the inside of a rune":           "\x04\x80",
		"a rune in a long form":          "\x04\xc1\x81",
		"rune 0 in a long form":          "\x04\xc0\x80",
		"a rune in three for two":        "\x04\xe0\x83\xa9",
		"D800":                           "\x04\xed\xa0\x80",
		"DFFF":                           "\x04\xed\xbf\xbf",
		"110000":                         "\x04\xf4\x90\x80\x80",
		"1FFFFF":                         "\x04\xf7\xbf\xbf\xbf",
		"40 runes":                       "\x04" + string(rising('!', 40)),
		"20 runes of two bytes":          "\x04" + string(rising(0x80, 20)),
		"ten runes of four bytes":        "\x04" + string(rising(0x10000, 10)),
		"a million runes":                "\x04" + string(rising(0x10000, 1_000_000)),
		"a million noughts":              strings.Repeat("\x00", 1_000_000),
		"a million flags":                strings.Repeat("\x01", 1_000_000),
		"a million tallies":              "\x03" + strings.Repeat("\x01\x00\x01\x00\x00", 1_000_000),
		"a real of a million bytes":      "\x02" + strings.Repeat(noughts, 125_000),
	}
}

// rising are n runes from the first on.
func rising(first rune, n int) []rune {
	var l []rune
	for x := first; len(l) < n; x++ {
		if utf8.ValidRune(x) {
			l = append(l, x)
		}
	}
	return l
}

// letters are n runes of one byte each.
func letters(n int) string { return string(rising('0', n)) }

// floatBytes are a float's eight bytes, of every NaN the same.
func floatBytes(x float64) string {
	if x != x {
		return theNaN
	}
	var b [8]byte
	for i := range b {
		b[i] = byte(math.Float64bits(x) >> (56 - 8*i))
	}
	return string(b[:])
}

// drawn is a value of some kind; two of a kind are often near one another.
func drawn(r *rand.Rand) string { return drawnOf(r, 1+r.Intn(5)) }

func drawnOf(r *rand.Rand, kind int) string {
	switch kind {
	case 1:
		return "\x01" + string([]byte{byte(r.Intn(2))})
	case 2:
		return "\x02" + floatBytes(drawnFloat(r))
	case 3:
		return drawnTally(r)
	case 4:
		return "\x04" + drawnSet(r)
	}
	return "\x05" + floatBytes(drawnFloat(r)) + floatBytes(drawnFloat(r))
}

func drawnFloat(r *rand.Rand) float64 {
	switch r.Intn(3) {
	case 0:
		return floats()[r.Intn(len(floats()))]
	case 1:
		return math.Float64frombits(r.Uint64())
	}
	return math.Float64frombits(r.Uint64() & 0x800fffffffffffff >> r.Intn(3))
}

func drawnTally(r *rand.Rand) string {
	b := []byte{3}
	for replica := range 5 {
		up, down := drawnCount(r), drawnCount(r)
		if up+down > 0 && r.Intn(3) > 0 {
			b = append(b, byte(replica+1), byte(up>>8), byte(up), byte(down>>8), byte(down))
		}
	}
	return string(b)
}

func drawnCount(r *rand.Rand) int {
	return []int{0, 0, 1, 2, 255, 256, 32767, 32768, 65534, 65535, r.Intn(65536)}[r.Intn(11)]
}

// drawnSet are the bytes of a set of runes of up to 39 bytes.
func drawnSet(r *rand.Rand) string {
	var out strings.Builder
	first, step := rune(r.Intn(100)), 1<<r.Intn(16)
	most := r.Intn(40)
	for x := first; x <= 0x10ffff; x += 1 + rune(r.Intn(step)) {
		if !utf8.ValidRune(x) {
			continue
		}
		if out.Len()+utf8.RuneLen(x) > most {
			break
		}
		out.WriteRune(x)
	}
	return out.String()
}

// drawnText is a value with some of its bytes changed, or some small bytes; often of no kind.
func drawnText(r *rand.Rand) string {
	if r.Intn(4) == 0 {
		b := make([]byte, r.Intn(14))
		for i := range b {
			b[i] = byte(r.Intn(6))
		}
		return string(b)
	}
	s := drawn(r)
	for range r.Intn(3) {
		at := r.Intn(len(s) + 1)
		s = s[:at] + string([]byte{byte(r.Intn(256) >> r.Intn(8))}) + s[min(at+r.Intn(3), len(s)):]
	}
	return s
}

// holding is a state with these values as siblings, of the dots 1:1, 1:2 ..
func holding(values ...string) api.State {
	var s api.State
	for i, v := range values {
		s.Siblings = append(s.Siblings, api.Sibling{Dot: api.Dot{Actor: 1, Count: uint64(i + 1)}, Value: v})
	}
	if len(values) > 0 {
		s.Seen = []api.Dot{{Actor: 1, Count: uint64(len(values))}}
	}
	return s
}
