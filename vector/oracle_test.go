package vector_test

import (
	"math"

	"concord/api"
)

// The oracle goes by maps of counts and by its own bytes; it shares nothing with the package or with wire.

func mayBe(v []api.Dot) bool {
	if len(v) > 64 {
		return false
	}
	least := int64(-1)
	for _, d := range v {
		if int64(d.Actor) <= least || d.Count == 0 || d.Count > 1099511627776 {
			return false
		}
		least = int64(d.Actor)
	}
	return true
}

// counts is each actor's count in a list that may be.
func counts(v []api.Dot) map[uint32]uint64 {
	m := map[uint32]uint64{}
	for _, d := range v {
		m[d.Actor] = d.Count
	}
	return m
}

func wantCount(v []api.Dot, actor uint32) uint64 {
	if !mayBe(v) {
		return 0
	}
	return counts(v)[actor]
}

func wantCovers(v []api.Dot, d api.Dot) bool {
	return mayBe(v) && d.Count > 0 && d.Count <= counts(v)[d.Actor]
}

func wantMax(a, b []api.Dot) ([]api.Dot, api.Errno) {
	if !mayBe(a) || !mayBe(b) {
		return nil, 100
	}
	m := counts(a)
	for actor, count := range counts(b) {
		m[actor] = max(m[actor], count)
	}
	if len(m) > 64 {
		return nil, 82
	}
	return fromMap(m), 0
}

func wantBelow(a, b []api.Dot) bool {
	if !mayBe(a) || !mayBe(b) {
		return false
	}
	inB := counts(b)
	for actor, count := range counts(a) {
		if count > inB[actor] {
			return false
		}
	}
	return true
}

func wantCompare(a, b []api.Dot) int8 {
	if wantBelow(a, b) && wantBelow(b, a) {
		return 0
	}
	if wantBelow(a, b) {
		return -1
	}
	if wantBelow(b, a) {
		return 1
	}
	return 2
}

func wantNext(v []api.Dot, actor uint32) (api.Dot, api.Errno) {
	if !mayBe(v) {
		return api.Dot{}, 100
	}
	if counts(v)[actor] == 1099511627776 {
		return api.Dot{}, 101
	}
	return api.Dot{Actor: actor, Count: counts(v)[actor] + 1}, 0
}

// number is a number's bytes to the base 128.
func number(n uint64) string {
	if n < 128 {
		return string([]byte{byte(n)})
	}
	return string([]byte{byte(n%128 + 128)}) + number(n/128)
}

// list is a list's bytes, whether it may be a vector or not.
func list(v []api.Dot) string {
	s := number(uint64(len(v)))
	for _, d := range v {
		s += number(uint64(d.Actor)) + number(d.Count)
	}
	return s
}

// taking is what the oracle has taken so far: how many bytes, and its error.
type taking struct {
	s  string
	at int
	e  api.Errno
}

// number takes one of at most most, as wire's chapter says it.
func (k *taking) number(most uint64) uint64 {
	if k.e != 0 {
		return 0
	}
	n, times := uint64(0), uint64(1)
	for i := 0; ; i++ {
		if i == 10 || i == 9 && k.at+i < len(k.s) && k.s[k.at+i] > 1 {
			k.e = 11
			return 0
		}
		if k.at+i == len(k.s) {
			k.e = 10
			return 0
		}
		b := uint64(k.s[k.at+i])
		n += b % 128 * times
		times *= 128
		if b >= 128 {
			continue
		}
		if b == 0 && i > 0 || n > most {
			k.e = 11
			return 0
		}
		k.at += i + 1
		return n
	}
}

// wantTake is what Take takes from the bytes: the vector, how many bytes it took, and the reader's error.
func wantTake(s string) ([]api.Dot, int, api.Errno) {
	k := &taking{s: s}
	var v []api.Dot
	for range k.number(64) {
		actor := k.number(math.MaxUint32)
		count := k.number(1099511627776)
		v = append(v, api.Dot{Actor: uint32(actor), Count: count})
	}
	if k.e == 0 && !mayBe(v) {
		k.e = 100
	}
	if k.e != 0 {
		v = nil
	}
	return v, k.at, k.e
}
