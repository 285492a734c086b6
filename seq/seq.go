// Package seq has numbers of 32 bits that go round, as TCP has them, and the offsets of 64 bits that they stand for.
package seq

import (
	"undertow/api"
)

// Wrap is an offset's number.
func Wrap(off int) uint32 {
	return uint32(off)
}

// Dist is the shorter way from one number to another one.
func Dist(a, b uint32) int {
	// The difference goes round as the numbers do; its highest bit, taken as a sign, turns the long way up into the short way down.
	return int(int32(b - a))
}

// Less tells whether a number is behind another one.
func Less(a, b uint32) bool {
	return Dist(a, b) > 0
}

// Between tells whether a number is met, going up.
func Between(lo, s, hi uint32) bool {
	return s-lo <= hi-lo
}

// Unwrap is the offset that a number stands for, next to another one.
func Unwrap(near int, s uint32) (int, bool) {
	// Looked at first, so that the way cannot lead over the ends of an int.
	if !may(near) {
		return 0, false
	}
	off := near + Dist(Wrap(near), s)
	if !may(off) {
		return 0, false
	}
	return off, true
}

// may tells whether an offset may be.
func may(off int) bool {
	return 0 <= off && off <= api.MaxOff
}

// Latest is the number that is the furthest ahead.
func Latest(from uint32, l ...uint32) uint32 {
	latest := from
	for i := range len(l) {
		if Dist(from, l[i]) > Dist(from, latest) {
			latest = l[i]
		}
	}
	return latest
}
