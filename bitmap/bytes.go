package bitmap

import "concord/api"

const (
	byteSize  = 8                   // bits of a byte
	wordBytes = wordSize / byteSize // bytes of a word
)

// From makes the one that these bytes are.
func From(n int, s string) (*Set, api.Errno) {
	set, e := New(n)
	if e != api.OK {
		return nil, e
	}
	if len(s) != bytesOf(n) {
		return nil, api.ErrForm
	}
	for i := range len(s) {
		set.words[i/wordBytes] |= uint64(s[i]) << (i % wordBytes * byteSize)
	}
	// Only the last word has room for bits of no number.
	if last := len(set.words) - 1; last >= 0 && set.words[last]&^lowest(n-last*wordSize) != 0 {
		return nil, api.ErrForm
	}
	return set, api.OK
}

// Told is the set as bytes.
func (s *Set) Told() string {
	if s == nil {
		return ""
	}
	out := make([]byte, bytesOf(s.bound))
	for i := range out {
		out[i] = byte(s.words[i/wordBytes] >> (i % wordBytes * byteSize))
	}
	return string(out)
}

// bytesOf is how many bytes a set with the bound n has.
func bytesOf(n int) int { return (n + byteSize - 1) / byteSize }
