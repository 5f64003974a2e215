package object_test

import (
	"strings"
	"testing"

	"concord/api"
	"concord/object"
)

// P13.1: the chapter's first example.
func TestExampleKey(t *testing.T) {
	for key, want := range map[string]api.Errno{"": api.ErrKey, strings.Repeat("k", 33): api.ErrKey, "\x00": api.OK} {
		if e := object.Key(key); e != want {
			t.Errorf("Key(%q): %v", key, e)
		}
	}
	for key, want := range map[string]int{"a": 2005, "b": 2637} {
		if n, e := object.Place(key); n != want || e != api.OK {
			t.Errorf("Place(%q): %d, %v", key, n, e)
		}
	}
}

// P13.1: the second.
func TestExampleCheck(t *testing.T) {
	if e := object.Check(of("", "1:1; 1:2=x")); e != api.ErrKey {
		t.Errorf("Check without a key: %v", e)
	}
	if e := object.Check(api.Object{Key: "k", State: row(41, 1, strings.Repeat("v", 40))}); e != api.ErrBig {
		t.Errorf("Check of 41 values: %v", e)
	}
}

// P13.2: the third.
func TestExampleForm(t *testing.T) {
	if f, e := object.Form(of("k", "1:1; 1:1=x")); f != "\x4f\x01\x6b\x01\x01\x01\x01\x01\x01\x00\x01\x78" || e != api.OK {
		t.Errorf("Form: % x, %v", f, e)
	}
	absent := of("k", "")
	if f, e := object.Form(absent); f != "" || e != api.OK {
		t.Errorf("Form of an absent one: % x, %v", f, e)
	}
	for width, want := range map[int]api.Errno{5: api.OK, 0: api.ErrArg, 33: api.ErrArg} {
		if s, e := object.Sum(absent, width); s != "" || e != want {
			t.Errorf("Sum of an absent one with %d: % x, %v", width, s, e)
		}
	}
	if x, e := object.Entry(absent, 5); x != (api.Entry{}) || e != api.ErrState {
		t.Errorf("Entry of an absent one: %v, %v", x, e)
	}
}

// P13.3, P13.4: the fourth.
func TestExamplePut(t *testing.T) {
	o, d, e := object.Put(of("k", ""), nil, 1, "x", false)
	if !same(o, of("k", "1:1; 1:1=x")) || d != dots("1:1")[0] || e != api.OK {
		t.Errorf("Put: %v, %v, %v", o, d, e)
	}
	if m, e := object.Merge(o, of("k", "2:1; 2:1=y")); !same(m, of("k", "1:1 2:1; 1:1=x 2:1=y")) || e != api.OK {
		t.Errorf("Merge: %v, %v", m, e)
	}
	if m, e := object.Merge(o, of("l", "2:1; 2:1=y")); !isZero(m) || e != api.ErrArg {
		t.Errorf("Merge of unlike keys: %v, %v", m, e)
	}
}

// P13.5: the fifth.
func TestExampleCell(t *testing.T) {
	const value = "\x01\x01\x01\x01\x01\x01\x00\x01\x78"
	c, e := object.Pack(of("a", "1:1; 1:1=x"))
	if c != (api.Cell{Key: "\x07\xd5\x61", Value: value}) || e != api.OK {
		t.Errorf("Pack: % x, % x, %v", c.Key, c.Value, e)
	}
	if o, e := object.Unpack(c); !same(o, of("a", "1:1; 1:1=x")) || e != api.OK {
		t.Errorf("Unpack: %v, %v", o, e)
	}
	for _, x := range []api.Cell{{Key: "\x07\xd6\x61", Value: value}, {Key: c.Key, Value: value + "\x00"}, {Key: c.Key, Value: "\x00\x00"}, {Key: "\x07\xd5", Value: value}} {
		if o, e := object.Unpack(x); !isZero(o) || e != api.ErrForm {
			t.Errorf("Unpack of % x, % x: %v, %v", x.Key, x.Value, o, e)
		}
	}
}
