package curve

import (
	"iter"

	"kerbstone/api"
)

// piece is a straight piece of a curve: where it begins, its vector, its
// length (rounded down, as long as it is not checked), and its start.
type piece struct {
	begin  api.Spot
	way    api.Spot
	length int64
	start  int64
}

// pieces goes through the pieces of a curve whose points are valid. The curve
// itself need not be, so that Check can use it, too.
func pieces(c api.Curve) iter.Seq2[int, piece] {
	return func(yield func(int, piece) bool) {
		var start int64
		for i := range len(c.Pts) - 1 {
			way := minus(c.Pts[i+1], c.Pts[i])
			p := piece{begin: c.Pts[i], way: way, length: norm(way), start: start}
			if !yield(i, p) {
				return
			}
			start += p.length
		}
	}
}

// pieceAt returns the last piece that starts at or before s, with its number;
// the first one for an s below 0.
func pieceAt(c api.Curve, s int64) (int, piece) {
	var number int
	var found piece
	for i, p := range pieces(c) {
		if i > 0 && p.start > s {
			break
		}
		number, found = i, p
	}
	return number, found
}

// check returns why the piece may not be in a curve, if it were alone there.
func (p piece) check() api.Errno {
	if p.length*p.length != dot(p.way, p.way) {
		return api.ErrForm
	}
	if p.length < api.MinPiece || p.length > api.MaxPiece {
		return api.ErrRange
	}
	return api.OK
}

// within returns the offset in the piece of the offset s of the curve, brought
// into the piece.
func (p piece) within(s int64) int64 {
	return min(max(s-p.start, 0), p.length)
}

// place returns the place of an offset within the piece.
func (p piece) place(t int64) api.Spot {
	return api.Spot{
		X: p.begin.X + floor(p.way.X*t, p.length),
		Y: p.begin.Y + floor(p.way.Y*t, p.length),
	}
}

// foot returns the foot of q, times the length.
func (p piece) foot(q api.Spot) int64 {
	return dot(p.way, minus(q, p.begin))
}

// distance returns the distance of q, times the length.
func (p piece) distance(q api.Spot) int64 {
	d := cross(p.way, minus(q, p.begin))
	return max(d, -d)
}
