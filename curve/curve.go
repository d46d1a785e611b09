// Package curve is layer 1: it computes exactly with curves, which are chains
// of straight pieces of whole lengths, and with the corridors around them.
package curve

import (
	"slices"

	"kerbstone/api"
)

// Check returns the first reason for which c is not valid, otherwise OK.
func Check(c api.Curve) api.Errno {
	if len(c.Pts) < 2 {
		return api.ErrShort
	}
	if len(c.Pts) > api.MaxPts {
		return api.ErrLong
	}
	if !valid(c.Pts...) {
		return api.ErrRange
	}
	var before api.Spot
	for i, p := range pieces(c) {
		if e := p.check(); e != api.OK {
			return e
		}
		if i > 0 && dot(before, p.way) <= 0 {
			return api.ErrClash
		}
		before = p.way
	}
	return api.OK
}

// Length returns the sum of the lengths of the pieces of c.
func Length(c api.Curve) int64 {
	if Check(c) != api.OK {
		return 0
	}
	var sum int64
	for _, p := range pieces(c) {
		sum += p.length
	}
	return sum
}

// Pieces returns the lengths of the pieces of c, in order.
func Pieces(c api.Curve) []int64 {
	if Check(c) != api.OK {
		return nil
	}
	var lengths []int64
	for _, p := range pieces(c) {
		lengths = append(lengths, p.length)
	}
	return lengths
}

// Piece returns the number of the piece in which the offset s lies, and the
// offset within it.
func Piece(c api.Curve, s int64) (int, int64) {
	if Check(c) != api.OK {
		return 0, 0
	}
	i, p := pieceAt(c, s)
	return i, p.within(s)
}

// At returns the place of the offset s.
func At(c api.Curve, s int64) api.Spot {
	if Check(c) != api.OK {
		return api.Spot{}
	}
	_, p := pieceAt(c, s)
	return p.place(p.within(s))
}

// Join returns the curve that goes along a, and then along b.
func Join(a, b api.Curve) (api.Curve, api.Errno) {
	if e := Check(a); e != api.OK {
		return api.Curve{}, e
	}
	if e := Check(b); e != api.OK {
		return api.Curve{}, e
	}
	if a.Pts[len(a.Pts)-1] != b.Pts[0] {
		return api.Curve{}, api.ErrMissing
	}
	c := extended(a, b.Pts[1:]...)
	if e := Check(c); e != api.OK {
		return api.Curve{}, e
	}
	return c, api.OK
}

// Same reports whether a and b have the same points.
func Same(a, b api.Curve) bool {
	return slices.Equal(a.Pts, b.Pts)
}

// Copy returns a curve with the points of c, in memory of its own.
func Copy(c api.Curve) api.Curve {
	return extended(c)
}

// extended returns a new curve that has the points of c, and more behind them.
func extended(c api.Curve, more ...api.Spot) api.Curve {
	return api.Curve{Pts: slices.Concat(c.Pts, more)}
}
