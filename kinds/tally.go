package kinds

import (
	"math"

	"concord/api"
	"concord/wire"
)

// The places of counts.
const (
	up = iota
	down
	upAndDown
)

// counts are how much a replica counted up, and how much down.
type counts [upAndDown]uint16

// tally are the counts of all replicas, from the first on.
type tally [api.MaxReplicas]counts

// Tally is the tally of nobody.
func Tally() string { return typed{kind: KindTally}.told() }

// AsTally is what a tally comes to.
func AsTally(value string) (int32, api.Errno) {
	t, e := as(value, KindTally)
	var sum int32
	for _, c := range t.tally {
		sum += int32(c[up]) - int32(c[down])
	}
	return sum, e
}

// Step is a tally behind a step of a replica.
func Step(value string, replica uint8, by int16) (string, api.Errno) {
	t, e := as(value, KindTally)
	if e != api.OK {
		return "", e
	}
	if !isReplica(int(replica)) {
		return "", api.ErrArg
	}
	way, much := up, uint16(by)
	if by < 0 {
		way, much = down, -much // turned here, where the least int16 has an opposite, too
	}
	count := &t.tally[replica-1][way]
	if much > math.MaxUint16-*count {
		return "", api.ErrEnd
	}
	*count += much
	return t.told(), api.OK
}

func isReplica(n int) bool { return n >= 1 && n <= api.MaxReplicas }

// takeTally takes all that is left.
func takeTally(r *wire.Reader) tally {
	var t tally
	for r.Left() > 0 && r.Err() == api.OK {
		replica := r.Byte()
		ups := r.Fixed(2)
		downs := r.Fixed(2)
		t.set(int(replica), uint16(ups), uint16(downs))
	}
	return t
}

// set sets a replica's counts. Where there is no such replica it does nothing, so that the tally is told otherwise than it was read.
func (t *tally) set(replica int, ups, downs uint16) {
	if isReplica(replica) {
		t[replica-1] = counts{up: ups, down: downs}
	}
}

// put puts the counts of those that counted.
func (t tally) put(w *wire.Writer) {
	for i, c := range t {
		if c == (counts{}) {
			continue
		}
		w.Byte(uint8(i + 1))
		w.Fixed(uint64(c[up]), 2)
		w.Fixed(uint64(c[down]), 2)
	}
}

// join is of each replica the greater of both counts.
func (t tally) join(u tally) tally {
	for i, c := range u {
		for way, n := range c {
			t[i][way] = max(t[i][way], n)
		}
	}
	return t
}
