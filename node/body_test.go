package node_test

import (
	"math/rand"
	"strings"
	"testing"

	"concord/api"
	"concord/node"
)

func wantEncode(t *testing.T, what string, n api.Node, want string, e api.Errno) {
	t.Helper()
	if got, f := node.Encode(n); got != want || f != e {
		t.Errorf("%s: Encode is % x, %v, want % x, %v", what, got, f, want, e)
	}
}

func wantNoNode(t *testing.T, what, s string) {
	t.Helper()
	if n, e := node.Decode(s); e != api.ErrNode || !isNothing(n) {
		t.Errorf("%s: Decode(% x) is %+v, %v", what, s, n, e)
	}
}

// P8.2: Encode answers Check's errors, then ErrBig of a node that does not fit, and else the body; Decode of it the node.
func TestEncode(t *testing.T) {
	for what, c := range checks(t) {
		want, e := "", c.want
		if e == api.OK && len(body(c.n)) > 996 {
			e = api.ErrBig
		}
		if e == api.OK {
			want = body(c.n)
		}
		wantEncode(t, what, c.n, want, e)
	}
}

// P8.2: nodes about the size from which on they do not fit.
func TestWhatFits(t *testing.T) {
	for size := 980; size <= 1010; size++ {
		for _, n := range []api.Node{leafOf(t, size), branchOf(t, size)} {
			s := body(n)
			if size > 996 {
				wantEncode(t, "too great", n, "", api.ErrBig)
				wantNoNode(t, "too great", s)
				continue
			}
			wantEncode(t, "fits", n, s, api.OK)
			if got, e := node.Decode(s); e != api.OK || !same(got, n) {
				t.Errorf("%d bytes: Decode: %v", size, e)
			}
		}
	}
}

// P8.2: bytes that are no node's body, each wrong in one thing.
func TestNoNodes(t *testing.T) {
	for what, s := range map[string]string{
		"nothing":                        "",
		"no kind":                        "\x00\x00\x00",
		"another kind":                   "\x03\x00\x00",
		"a leaf's kind alone":            "\x01",
		"a branch's kind alone":          "\x02",
		"no kind alone":                  "\x00",
		"another kind alone":             "\x03",
		"half a count":                   "\x01\x00",
		"a cell too few":                 "\x01\x00\x02\x01a\x011",
		"a cell too many":                "\x01\x00\x00\x01a\x011",
		"a byte behind":                  "\x01\x00\x01\x01a\x011\x00",
		"a count of 65535":               "\x01\xff\xff\x01a\x011",
		"a value missing":                "\x01\x00\x01\x01a",
		"an empty key":                   "\x01\x00\x01\x00\x011",
		"keys that fall":                 "\x01\x00\x02\x01c\x013\x01a\x011",
		"keys alike":                     "\x01\x00\x02\x01a\x013\x01a\x011",
		"a key's length in a long form":  "\x01\x00\x01\x81\x00a\x011",
		"a value's length in a long one": "\x01\x00\x01\x01a\x81\x001",
		"a cell of 321 bytes":            "\x01\x00\x01\x01a" + text(x(320)),
		"a value of 321 bytes":           "\x01\x00\x01\x01a" + text(x(321)),
		"a key of 321 bytes":             "\x01\x00\x01" + text(x(321)) + "\x00",
		"a branch's first kid missing":   "\x02\x00\x00",
		"a branch's first kid cut":       "\x02\x00\x00\x00\x00\x07",
		"a branch's first kid 0":         "\x02\x00\x00\x00\x00\x00\x00",
		"a branch's second kid 0":        "\x02\x00\x01\x00\x00\x00\x07\x01m\x00\x00\x00\x00",
		"a branch's second kid cut":      "\x02\x00\x01\x00\x00\x00\x07\x01m\x00\x00\x08",
		"a branch's key empty":           "\x02\x00\x01\x00\x00\x00\x07\x00\x00\x00\x00\x08",
		"a branch's key of 321 bytes":    "\x02\x00\x01\x00\x00\x00\x07" + text(x(321)) + "\x00\x00\x00\x08",
		"a branch's keys fall":           "\x02\x00\x02\x00\x00\x00\x07\x01m\x00\x00\x00\x08\x01a\x00\x00\x00\x09",
		"a branch's count too great":     "\x02\xff\xff\x00\x00\x00\x07\x01m\x00\x00\x00\x08",
		"a branch with a byte behind":    "\x02\x00\x00\x00\x00\x00\x07\x00",
		"noughts":                        strings.Repeat("\x00", 996),
		"a great many bytes":             "\x01\x00\x00" + strings.Repeat("\x00", 1<<20),
	} {
		wantNoNode(t, what, s)
	}
}

// P8.2: of some bodies every beginning, every byte more, and every byte turned in every way, held against an oracle; what is read is told again as the same bytes (P8.8).
func TestTurnedBodies(t *testing.T) {
	for _, n := range []api.Node{
		leaf(), leaf("a", ""), leaf("a", "1", "c", "3"), leaf("a", x(127), "b", x(128)), leaf(x(128), "1", "y", ""),
		branch(7), branch(7, "m"), branch(255, "m", "t"), branch(1, x(130)),
	} {
		s := body(n)
		for cut := range s {
			wantAsOracle(t, s[:cut])
		}
		for at := range s {
			for b := range 256 {
				wantAsOracle(t, s[:at]+string([]byte{byte(b)})+s[at+1:])
			}
		}
		for b := range 256 {
			wantAsOracle(t, s+string([]byte{byte(b)}))
		}
	}
}

func wantAsOracle(t *testing.T, s string) {
	t.Helper()
	want, ok := wantDecode(s)
	if !ok {
		wantNoNode(t, "as the oracle says", s)
		return
	}
	if got, e := node.Decode(s); e != api.OK || !same(got, want) {
		t.Errorf("Decode(% x) is %+v, %v, want %+v", s, got, e, want)
	}
	wantEncode(t, "told again", want, s, api.OK)
}

// P8.2: drawn bytes that look like a body, held against an oracle.
func TestDrawnBodies(t *testing.T) {
	r := rand.New(rand.NewSource(82))
	nodes := 0
	for range 60000 {
		s := drawnBody(r)
		wantAsOracle(t, s)
		if _, ok := wantDecode(s); ok {
			nodes++
		}
	}
	if nodes < 3000 {
		t.Errorf("only %d of the bytes were bodies", nodes)
	}
}

// drawnBody is a kind, a count, and about as many items, of which some are wrong.
func drawnBody(r *rand.Rand) string {
	kind, count := 1+r.Intn(2), r.Intn(4)
	s := string([]byte{byte(kind)}) + two(count)
	if kind == 2 {
		s += four(uint32(r.Intn(9)))
	}
	if r.Intn(9) == 0 {
		count += r.Intn(3) - 1
	}
	for i := range max(count, 0) {
		s += text(string(rune('a'+3*i+r.Intn(4))) + x(max(r.Intn(90)-80, 0)))
		if kind == 1 {
			s += text(x(r.Intn(3)))
		} else {
			s += four(uint32(r.Intn(30)))
		}
	}
	return s
}

// P8.2: drawn nodes, held against the oracle, and there and back.
func TestDrawnNodesAsBodies(t *testing.T) {
	r := rand.New(rand.NewSource(83))
	for range 20000 {
		n := drawnNode(r)
		e := wantCheck(n)
		if e == api.OK && len(body(n)) > 996 {
			e = api.ErrBig
		}
		if e != api.OK {
			wantEncode(t, "drawn", n, "", e)
			continue
		}
		wantEncode(t, "drawn", n, body(n), api.OK)
		if got, e := node.Decode(body(n)); e != api.OK || !same(got, n) {
			t.Fatalf("%+v: there and back: %+v, %v", n, got, e)
		}
	}
}

// R3: what Decode answers is new memory each time.
func TestDecodeAnew(t *testing.T) {
	for _, n := range []api.Node{leaf("a", "1", "c", "3"), branch(7, "m", "t")} {
		s := body(n)
		a, _ := node.Decode(s)
		b, _ := node.Decode(s)
		scribble(a)
		if c, e := node.Decode(s); !same(b, n) || !same(c, n) || e != api.OK {
			t.Errorf("behind scribbling: %+v, %+v, %v", b, c, e)
		}
	}
}
