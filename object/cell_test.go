package object_test

import (
	"math/rand"
	"strings"
	"testing"

	"concord/api"
	"concord/object"
)

// wantUnpackAs holds what Unpack makes of a cell against the oracle; what is read is packed again as the same cell.
func wantUnpackAs(t *testing.T, c api.Cell) {
	t.Helper()
	want, is := wantUnpack(c)
	got, e := object.Unpack(c)
	if !is {
		if !isZero(got) || e != api.ErrForm {
			t.Errorf("Unpack of % x, % x: %v, %v", c.Key, c.Value, got, e)
		}
		return
	}
	if !same(got, want) || e != api.OK {
		t.Errorf("Unpack of % x, % x: %v, %v, want %v", c.Key, c.Value, got, e, want)
	}
	if again, e := object.Pack(got); again != c || e != api.OK {
		t.Errorf("% x, % x is packed again as % x, % x, %v", c.Key, c.Value, again.Key, again.Value, e)
	}
}

// P13.5: objects at their edges have their cells, and these tell the objects.
func TestCells(t *testing.T) {
	for _, o := range objects() {
		want, wantE := wantPack(o)
		c, e := object.Pack(o)
		if c != want || e != wantE {
			t.Errorf("Pack(%v): % x, % x, %v, want % x, % x, %v", o, c.Key, c.Value, e, want.Key, want.Value, wantE)
		}
		if e != api.OK {
			continue
		}
		if got, e := object.Unpack(c); !same(got, o) || e != api.OK {
			t.Errorf("Unpack of % x, % x: %v, %v, want %v", c.Key, c.Value, got, e, o)
		}
	}
}

// P13.5: what may not be has no cell; an absent one neither.
func TestPackWrong(t *testing.T) {
	for want, all := range none() {
		for _, o := range all {
			if c, e := object.Pack(o); c != (api.Cell{}) || e != want {
				t.Errorf("Pack: % x, %v, want %v", c.Key, e, want)
			}
		}
	}
	for _, key := range keys() {
		if c, e := object.Pack(of(key, "")); c != (api.Cell{}) || e != api.ErrState {
			t.Errorf("Pack of an absent %q: % x, %v", key, c.Key, e)
		}
	}
	for _, key := range noKeys() {
		if c, e := object.Pack(of(key, "")); c != (api.Cell{}) || e != api.ErrKey {
			t.Errorf("Pack of an absent one of %d bytes: % x, %v", len(key), c.Key, e)
		}
	}
}

// placed is a cell whose key begins with the segment that it would have, whatever its key is.
func placed(key, value string) api.Cell {
	n := place(key)
	return api.Cell{Key: string([]byte{byte(n / 256), byte(n % 256)}) + key, Value: value}
}

// P13.5: cells of no object: of no key, of a state that may not be, is too great or absent.
func TestUnpackWrong(t *testing.T) {
	right := list(state("1:1; 1:1=x"))
	cells := []api.Cell{{}, {Key: "", Value: right}, {Key: "\x07", Value: right}, {Key: "\x07\xd5", Value: right}, {Key: "a", Value: right}, {Key: "\x07\xd5a"}}
	for _, key := range noKeys() {
		cells = append(cells, placed(key, right), api.Cell{Key: key, Value: right})
	}
	for _, s := range append(noStates(), great()...) {
		cells = append(cells, placed("k", list(s)))
	}
	for _, value := range []string{"", "\x00", "\x00\x00", "\x00\x00\x00", right + "\x00", right + right, right[1:], "\x80\x00\x00", strings.Repeat("\x01", 280), strings.Repeat("\xff", 1<<22)} {
		cells = append(cells, placed("k", value))
	}
	for _, c := range cells {
		if o, e := object.Unpack(c); !isZero(o) || e != api.ErrForm {
			t.Errorf("Unpack of %.40x, %.40x: %v, %v", c.Key, c.Value, o, e)
		}
		wantUnpackAs(t, c)
	}
}

// P13.5: of one key every segment but its own is refused.
func TestUnpackWithEachSegment(t *testing.T) {
	value := list(state("1:1; 1:1=x"))
	for n := range 65536 {
		c := api.Cell{Key: string([]byte{byte(n / 256), byte(n % 256)}) + "a", Value: value}
		if o, e := object.Unpack(c); (e == api.OK) != (n == 2005) || isZero(o) != (n != 2005) {
			t.Errorf("Unpack with the segment %d: %v, %v", n, o, e)
		}
	}
}

// P13.5: keys of every length.
func TestUnpackHowLong(t *testing.T) {
	value := list(sized(280, 1))
	for n := range 70 {
		key := strings.Repeat("y", n)
		want := api.OK
		if n < 1 || n > 32 {
			want = api.ErrForm
		}
		o, e := object.Unpack(placed(key, value))
		if e != want || e == api.OK && (o.Key != key || len(o.State.Siblings) != 7) {
			t.Errorf("a key of %d bytes: %v, %v", n, o, e)
		}
	}
}

// P13.5: of some cells every beginning, every byte left out, turned in every way, and a byte put between.
func TestTurnedCells(t *testing.T) {
	for _, o := range []api.Object{of("a", "1:1; 1:1=x"), of("b", "1:1; 1:1-"), of("kk", "1:2 300:1; 1:1=b 1:2- 300:1=ab")} {
		c, _ := wantPack(o)
		for at := range c.Key {
			wantUnpackAs(t, api.Cell{Key: c.Key[:at], Value: c.Value})
			wantUnpackAs(t, api.Cell{Key: c.Key[:at] + c.Key[at+1:], Value: c.Value})
			for n := range 256 {
				turned := string([]byte{byte(n)})
				wantUnpackAs(t, api.Cell{Key: c.Key[:at] + turned + c.Key[at+1:], Value: c.Value})
				wantUnpackAs(t, api.Cell{Key: c.Key + turned, Value: c.Value})
			}
		}
		for at := range c.Value {
			wantUnpackAs(t, api.Cell{Key: c.Key, Value: c.Value[:at]})
			wantUnpackAs(t, api.Cell{Key: c.Key, Value: c.Value[:at] + c.Value[at+1:]})
			for n := range 256 {
				turned := string([]byte{byte(n)})
				wantUnpackAs(t, api.Cell{Key: c.Key, Value: c.Value[:at] + turned + c.Value[at+1:]})
				wantUnpackAs(t, api.Cell{Key: c.Key, Value: c.Value[:at] + turned + c.Value[at:]})
			}
		}
	}
}

// P13.5: drawn cells, of which some are an object's.
func TestDrawnCells(t *testing.T) {
	r := rand.New(rand.NewSource(136))
	met := 0
	for range 40000 {
		o := drawn(r)
		c := placed(o.Key, list(o.State))
		if r.Intn(2) == 0 {
			at := r.Intn(len(c.Value) + 1)
			c.Value = c.Value[:at] + string([]byte{byte(r.Intn(256) >> r.Intn(8))}) + c.Value[min(at+r.Intn(3), len(c.Value)):]
		}
		if r.Intn(10) == 0 {
			c.Key = c.Key[r.Intn(3):]
		}
		if _, is := wantUnpack(c); is {
			met++
		}
		wantUnpackAs(t, c)
		if t.Failed() {
			t.FailNow()
		}
	}
	if met < 10000 || met > 30000 {
		t.Errorf("%d of the cells were an object's", met)
	}
}

// R3: what Unpack answers is new memory.
func TestUnpackAnew(t *testing.T) {
	for _, o := range objects() {
		c, e := object.Pack(o)
		if e != api.OK {
			continue
		}
		first, _ := object.Unpack(c)
		second, _ := object.Unpack(c)
		scribble(first)
		third, e := object.Unpack(c)
		if !same(second, o) || !same(third, o) || e != api.OK {
			t.Errorf("%v: two answers share memory", o)
		}
	}
}

// R1: Unpack ends soon, however many bytes there are.
func TestUnpackOfManyBytes(t *testing.T) {
	for _, b := range []string{"\x00", "\x01", "\xff"} {
		long := strings.Repeat(b, 1<<24)
		for _, c := range []api.Cell{{Key: long, Value: long}, {Key: "\x07\xd5a", Value: long}, {Key: long, Value: list(state("1:1; 1:1=x"))}} {
			if o, e := object.Unpack(c); !isZero(o) || e != api.ErrForm {
				t.Errorf("Unpack: %v", e)
			}
		}
	}
}
