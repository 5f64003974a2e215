package bitmap

import "concord/api"

// Or puts in what another set has.
func (s *Set) Or(o *Set) api.Errno {
	return s.with(o, func(mine, other uint64) uint64 { return mine | other })
}

// And takes out what another set has not.
func (s *Set) And(o *Set) api.Errno {
	return s.with(o, func(mine, other uint64) uint64 { return mine & other })
}

// Minus takes out what another set has.
func (s *Set) Minus(o *Set) api.Errno {
	return s.with(o, func(mine, other uint64) uint64 { return mine &^ other })
}

// with makes each word anew out of itself and the other set's.
func (s *Set) with(o *Set, made func(mine, other uint64) uint64) api.Errno {
	if s == nil || o == nil {
		return api.ErrNil
	}
	if s.bound != o.bound {
		return api.ErrArg
	}
	for i := range s.words {
		s.words[i] = made(s.words[i], o.words[i])
	}
	return api.OK
}
