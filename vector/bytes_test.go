package vector_test

import (
	"math"
	"math/rand"
	"slices"
	"testing"

	"concord/api"
	"concord/vector"
	"concord/wire"
)

// wantTaken holds what Take and Decode make of bytes against the oracle; what is read is told again as the same bytes (P10.9).
func wantTaken(t *testing.T, what, s string) {
	t.Helper()
	v, at, e := wantTake(s)
	r := wire.NewReader(s)
	if got := vector.Take(r); !slices.Equal(got, v) || r.At() != at || r.Err() != e {
		t.Errorf("%s: Take from % x is %v, at %d, %v, want %v, %d, %v", what, s, got, r.At(), r.Err(), v, at, e)
	}
	got, f := vector.Decode(s)
	if e != api.OK || at != len(s) {
		if len(got) != 0 || f != api.ErrVector {
			t.Errorf("%s: Decode(% x) is %v, %v", what, s, got, f)
		}
		return
	}
	if !slices.Equal(got, v) || f != api.OK {
		t.Errorf("%s: Decode(% x) is %v, %v, want %v", what, s, got, f, v)
	}
	if told, e := vector.Encode(got); told != s || e != api.OK {
		t.Errorf("%s: % x is told again as % x, %v", what, s, told, e)
	}
}

// P10.5, P10.6: vectors at the edges and small ones have their bytes; behind others' bytes, too.
func TestEncode(t *testing.T) {
	for what, v := range vectors() {
		wantBytes(t, what, v)
	}
	for _, v := range small() {
		wantBytes(t, "small", v)
	}
}

func wantBytes(t *testing.T, what string, v []api.Dot) {
	t.Helper()
	s, e := vector.Encode(v)
	if s != list(v) || e != api.OK {
		t.Errorf("%s: Encode is % x, %v, want % x", what, s, e, list(v))
	}
	wantTaken(t, what, s)
	w := wire.NewWriter()
	w.Text("ab")
	if e := vector.Put(w, v); w.Told() != "\x02ab"+list(v) || e != api.OK {
		t.Errorf("%s: Put makes % x, %v", what, w.Told(), e)
	}
}

// P10.5, P10.6: of lists that may not be nothing is put, and their bytes are none.
func TestEncodeOfNone(t *testing.T) {
	for what, v := range none() {
		if s, e := vector.Encode(v); s != "" || e != api.ErrVector {
			t.Errorf("%s: Encode is % x, %v", what, s, e)
		}
		w := wire.NewWriter()
		w.Text("ab")
		if e := vector.Put(w, v); w.Told() != "\x02ab" || e != api.ErrVector {
			t.Errorf("%s: Put makes % x, %v", what, w.Told(), e)
		}
		if e := vector.Put(w, of(1, 1)); w.Told() != "\x02ab\x01\x01\x01" || e != api.OK {
			t.Errorf("%s: Put behind it makes % x, %v", what, w.Told(), e)
		}
		if len(v) < 200 {
			wantTaken(t, what, list(v))
			if got, e := vector.Decode(list(v)); len(got) != 0 || e != api.ErrVector {
				t.Errorf("%s: Decode is %v, %v", what, got, e)
			}
		}
	}
}

// P10.6: without a writer ErrNil, ahead of ErrVector; without a reader no dots.
func TestNil(t *testing.T) {
	for _, v := range [][]api.Dot{nil, of(1, 1), of(1, 0), many(65, 0, 1, 1)} {
		if e := vector.Put(nil, v); e != api.ErrNil {
			t.Errorf("Put(nil, %v): %v", v, e)
		}
	}
	if v := vector.Take(nil); len(v) != 0 {
		t.Errorf("Take(nil): %v", v)
	}
}

// P10.6: which error Take notes, and what it has taken ahead of it.
func TestTakeErrors(t *testing.T) {
	const last, one = "\xff\xff\xff\xff\x0f", "\x80\x80\x80\x80\x80\x20" // 2^32 - 1, 2^40
	for what, c := range map[string]struct {
		s  string
		at int
		e  api.Errno
	}{
		"nothing":                     {"", 0, api.ErrShort},
		"none":                        {"\x00", 1, api.OK},
		"none, and more":              {"\x00\x01", 1, api.OK},
		"half a number of dots":       {"\x80", 0, api.ErrShort},
		"a long form of none":         {"\x80\x00", 0, api.ErrLong},
		"a long form of one":          {"\x81\x00\x01\x01", 0, api.ErrLong},
		"64 dots, none there":         {"\x40", 1, api.ErrShort},
		"65 dots, none there":         {"\x41", 0, api.ErrLong},
		"65 dots":                     {list(many(65, 0, 1, 1)), 0, api.ErrLong},
		"64 dots":                     {list(many(64, 0, 1, 1)), 129, api.OK},
		"2^64 - 1 dots":               {number(math.MaxUint64), 0, api.ErrLong},
		"no number at all":            {"\xff\xff\xff\xff\xff\xff\xff\xff\xff\xff", 0, api.ErrLong},
		"no actor":                    {"\x01", 1, api.ErrShort},
		"half an actor":               {"\x01\x80", 1, api.ErrShort},
		"an actor in a long form":     {"\x01\x81\x00\x01", 1, api.ErrLong},
		"the last actor":              {"\x01" + last + "\x01", 7, api.OK},
		"an actor of 2^32":            {"\x01" + number(1<<32) + "\x01", 1, api.ErrLong},
		"an actor of 2^32 + 1":        {"\x01" + number(1<<32+1) + "\x01", 1, api.ErrLong},
		"no count":                    {"\x01\x01", 2, api.ErrShort},
		"half a count":                {"\x01\x01\xac", 2, api.ErrShort},
		"a count in a long form":      {"\x01\x01\x81\x00", 2, api.ErrLong},
		"the greatest count":          {"\x01\x01" + one, 8, api.OK},
		"a count one too great":       {"\x01\x01" + number(end+1), 2, api.ErrLong},
		"a count of 0":                {"\x01\x01\x00", 3, api.ErrVector},
		"a count of 0, and more":      {"\x01\x01\x00\x07", 3, api.ErrVector},
		"actors that fall":            {"\x02\x02\x01\x01\x01", 5, api.ErrVector},
		"actors that fall, and more":  {"\x02\x02\x01\x01\x01\x05\x06", 5, api.ErrVector},
		"an actor twice":              {"\x02\x01\x01\x01\x02", 5, api.ErrVector},
		"a count of 0, then too few":  {"\x02\x01\x00\x02", 4, api.ErrShort},
		"actors that fall, then long": {"\x03\x02\x01\x01\x01\x80\x00\x01", 5, api.ErrLong},
		"a second dot too few":        {"\x02\x01\x01", 3, api.ErrShort},
		"a second count too few":      {"\x02\x01\x01\x02", 4, api.ErrShort},
		"a second count too great":    {"\x02\x01\x01\x02" + number(1<<41), 4, api.ErrLong},
	} {
		r := wire.NewReader(c.s)
		v := vector.Take(r)
		if r.At() != c.at || r.Err() != c.e || c.e != api.OK && len(v) != 0 {
			t.Errorf("%s: Take from % x is %v, at %d, %v, want %d, %v", what, c.s, v, r.At(), r.Err(), c.at, c.e)
		}
		wantTaken(t, what, c.s)
	}
}

// P10.6: Take goes on where the reader is, and one Take behind the other.
func TestTakeOneBehindTheOther(t *testing.T) {
	a, b := of(1, 300, 2, 1), of(0, end)
	s := "\x02ab" + list(a) + list(nil) + list(b) + "\x07"
	r := wire.NewReader(s)
	r.Text(9)
	for _, want := range [][]api.Dot{a, nil, b} {
		if got := vector.Take(r); !slices.Equal(got, want) || r.Err() != api.OK {
			t.Errorf("Take: %v, %v, want %v", got, r.Err(), want)
		}
	}
	if r.Byte() != 7 || r.End() != api.OK {
		t.Errorf("behind them: at %d, %v", r.At(), r.End())
	}
}

// P10.6: a reader that has an error keeps it, and nothing is taken.
func TestTakeBehindAnError(t *testing.T) {
	for _, e := range []api.Errno{api.ErrArg, api.ErrShort, api.ErrState} {
		for _, s := range []string{"\x05" + list(of(1, 1)), "\x05", "\x05\x41", "\x05\x01\x01\x00"} {
			r := wire.NewReader(s)
			r.Byte()
			r.Fail(e)
			if v := vector.Take(r); len(v) != 0 || r.Err() != e || r.At() != 1 {
				t.Errorf("Take behind %v: %v, at %d, %v", e, v, r.At(), r.Err())
			}
		}
	}
}

// P10.5, P10.6: of some bytes every beginning, a byte more, and every byte turned in every way.
func TestTurnedBytes(t *testing.T) {
	for _, v := range [][]api.Dot{nil, of(0, 1), of(1, 300, 2, 1), of(127, 128, 128, 127), of(5, end, math.MaxUint32, 1), of(1, 1, 2, 2, 3, 3)} {
		s := list(v)
		for cut := range s {
			wantTaken(t, "cut", s[:cut])
			if got, e := vector.Decode(s[:cut]); len(got) != 0 || e != api.ErrVector {
				t.Errorf("Decode(% x): %v, %v", s[:cut], got, e)
			}
		}
		for b := range 256 {
			wantTaken(t, "a byte more", s+string([]byte{byte(b)}))
			for at := range s {
				wantTaken(t, "turned", s[:at]+string([]byte{byte(b)})+s[at+1:])
			}
		}
	}
	full := list(many(64, 1<<20, 1<<25, end))
	for at := range full {
		wantTaken(t, "a full one, cut", full[:at])
	}
}

// P10.5, P10.6: all bytes of up to two, and drawn ones that look like a vector's.
func TestDrawnBytes(t *testing.T) {
	wantTaken(t, "empty", "")
	for i := range 256 {
		wantTaken(t, "one byte", string([]byte{byte(i)}))
		for k := range 256 {
			wantTaken(t, "two bytes", string([]byte{byte(i), byte(k)}))
		}
	}
	r := rand.New(rand.NewSource(103))
	whole := 0
	for range 60000 {
		s := drawnBytes(r)
		if _, at, e := wantTake(s); e == api.OK && at == len(s) {
			whole++
		}
		wantTaken(t, "drawn", s)
	}
	if whole < 5000 {
		t.Errorf("only %d of the bytes were a vector's", whole)
	}
}

// drawnBytes is a number of dots, and about as many, of which some are wrong.
func drawnBytes(r *rand.Rand) string {
	if r.Intn(4) == 0 {
		return list(drawnList(r))
	}
	n := r.Intn(4)
	s := number(uint64(n))
	if r.Intn(8) == 0 {
		n += r.Intn(3) - 1
	}
	for i := range max(n, 0) {
		s += number(uint64(3*i + r.Intn(4)))
		s += number(uint64(r.Intn(20)) << uint(r.Intn(3)*18))
	}
	return s
}

// R1: Decode ends soon, however many bytes there are.
func TestManyBytes(t *testing.T) {
	noughts := string(make([]byte, 1<<24))
	if v, e := vector.Decode(noughts); len(v) != 0 || e != api.ErrVector {
		t.Errorf("noughts: %v, %v", v, e)
	}
	if v, e := vector.Decode(list(many(64, 0, 1, 1)) + noughts); len(v) != 0 || e != api.ErrVector {
		t.Errorf("a vector and noughts: %v, %v", v, e)
	}
}

// R3: what Decode and Take answer is new memory each time.
func TestDecodeAnew(t *testing.T) {
	for what, v := range vectors() {
		s := list(v)
		a, _ := vector.Decode(s)
		b, _ := vector.Decode(s)
		r := wire.NewReader(s + s)
		c := vector.Take(r)
		d := vector.Take(r)
		scribble(a)
		scribble(c)
		again, e := vector.Decode(s)
		if !slices.Equal(b, v) || !slices.Equal(d, v) || !slices.Equal(again, v) || e != api.OK {
			t.Errorf("%s: behind scribbling: %v, %v, %v, %v", what, b, d, again, e)
		}
	}
}
