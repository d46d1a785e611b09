package curve

import (
	"sort"

	"kerbstone/api"
)

// Near returns the offset of p in each piece that is within the reach of p.
func Near(c api.Curve, p api.Spot, reach int64) []int64 {
	if Check(c) != api.OK || !valid(p) || reach < 0 || reach > api.MaxSpot {
		return nil
	}
	var offsets []int64
	for _, q := range pieces(c) {
		foot := q.foot(p)
		beside := foot >= -reach*q.length && foot <= (q.length+reach)*q.length
		if beside && q.distance(p) <= reach*q.length {
			offsets = append(offsets, q.start+min(max(floor(foot, q.length), 0), q.length))
		}
	}
	return offsets
}

// Holds reports whether p is in the corridor of a piece with this half width.
func Holds(c api.Curve, half int64, p api.Spot) bool {
	if Check(c) != api.OK || !validHalf(half) || !valid(p) {
		return false
	}
	for _, q := range pieces(c) {
		foot := q.foot(p)
		if foot >= 0 && foot <= q.length*q.length && q.distance(p) <= half*q.length {
			return true
		}
	}
	return false
}

// Corridors returns where the corridors of a and b have common points, for
// each pair of pieces that has one.
func Corridors(a api.Curve, ha int64, b api.Curve, hb int64) []api.Cross {
	if Check(a) != api.OK || Check(b) != api.OK || !validHalf(ha) || !validHalf(hb) {
		return nil
	}
	var found []api.Cross
	others := corridors(b, hb)
	for _, p := range corridors(a, ha) {
		for _, q := range others {
			if !meets(p, q) {
				continue
			}
			var x api.Cross
			x.FromA, x.ToA = common(p, q)
			x.FromB, x.ToB = common(q, p)
			found = append(found, x)
		}
	}
	return found
}

func validHalf(half int64) bool {
	return half >= 0 && half <= api.MaxHalf
}

// corridor is the corridor of a piece: along its vector, and along the normal
// to the left of it, it goes from the low to the high bound.
type corridor struct {
	piece
	half      int64
	axes      [2]api.Spot
	low, high [2]int64
}

// corridors returns the corridors of all pieces of a valid curve.
func corridors(c api.Curve, half int64) []corridor {
	var all []corridor
	for _, p := range pieces(c) {
		all = append(all, corridor{
			piece: p,
			half:  half,
			axes:  [2]api.Spot{p.way, {X: -p.way.Y, Y: p.way.X}},
			low:   [2]int64{0, -half},
			high:  [2]int64{p.length, half},
		})
	}
	return all
}

// between returns the part of the corridor from the offset s to the offset t.
func (a corridor) between(s, t int64) corridor {
	a.low[0], a.high[0] = s, t
	return a
}

// separates reports whether a line along an axis of a has all of a on one side,
// and all of b on the other one. What is compared is multiplied by both
// lengths, so that it is whole; it is below 2^62 for corridors that are not far
// from each other.
func (a corridor) separates(b corridor) bool {
	lengths := a.length * b.length
	way := minus(b.begin, a.begin)
	for i, axis := range a.axes {
		low := dot(axis, way) * b.length
		high := low
		for j, other := range b.axes {
			turn := dot(axis, other)
			low += min(turn*b.low[j], turn*b.high[j])
			high += max(turn*b.low[j], turn*b.high[j])
		}
		if high < a.low[i]*lengths || low > a.high[i]*lengths {
			return true
		}
	}
	return false
}

// far reports whether a and b begin too far from each other to have a common
// point.
func (a corridor) far(b corridor) bool {
	reach := a.length + a.half + b.length + b.half
	return Dist2(a.begin, b.begin) > reach*reach
}

// meets reports whether a and b have a common point. Two rectangles, also ones
// without an area, have none exactly if an axis of one of them separates them.
func meets(a, b corridor) bool {
	if a.far(b) {
		return false
	}
	apart := corridor.separates
	return !apart(a, b) && !apart(b, a)
}

// common returns the offsets of a between which all common points with b have
// their feet, for corridors that meet.
func common(a, b corridor) (int64, int64) {
	s := least(a.length, func(s int64) bool { return meets(a.between(0, s), b) })
	cut := least(a.length, func(cut int64) bool { return meets(a.between(a.length-cut, a.length), b) })
	t := a.length - cut
	return a.start + max(0, s-1), a.start + min(a.length, t+1)
}

// least returns the least number from 0 to most for which ok holds: it holds
// for most, and with a number also for each greater one.
func least(most int64, ok func(int64) bool) int64 {
	return int64(sort.Search(int(most), func(n int) bool { return ok(int64(n)) }))
}
