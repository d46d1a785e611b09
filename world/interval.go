package world

import "kerbstone/api"

// interval has all numbers from lo to hi: none, if lo is greater.
type interval struct {
	lo, hi int64
}

// nothing is the interval that common returns if there is no number.
var nothing = interval{lo: 1, hi: 0}

// holds reports whether x is in the interval.
func (i interval) holds(x int64) bool {
	return x >= i.lo && x <= i.hi
}

// common returns the numbers that are in both intervals.
func (i interval) common(j interval) interval {
	both := interval{lo: max(i.lo, j.lo), hi: min(i.hi, j.hi)}
	if both.lo > both.hi {
		return nothing
	}
	return both
}

// meets reports whether a number is in both intervals.
func (i interval) meets(j interval) bool {
	return i.common(j) != nothing
}

// minus returns the interval, seen from a new zero.
func (i interval) minus(zero int64) interval {
	return interval{lo: i.lo - zero, hi: i.hi - zero}
}

// offsets returns the offsets of a span.
func offsets(s api.Span) interval {
	return interval{lo: s.From, hi: s.To}
}

// overlap reports whether two spans of the lists have an offset in common.
func overlap(a, b []api.Span) bool {
	for _, s := range a {
		if touches(b, s.Lane, offsets(s)) {
			return true
		}
	}
	return false
}

// touches reports whether one of the spans has an offset of the part of the
// lane.
func touches(spans []api.Span, lane int, part interval) bool {
	for _, s := range spans {
		if s.Lane == lane && offsets(s).meets(part) {
			return true
		}
	}
	return false
}
