package curve_test

import (
	"math"
	"slices"
	"testing"

	"kerbstone/api"
	"kerbstone/curve"
)

func TestLengths(t *testing.T) {
	if l := curve.Pieces(exampleE()); !slices.Equal(l, []int64{5000, 5000}) || curve.Length(exampleE()) != 10000 {
		t.Error(l)
	}
	for i, s := range samples(21) {
		if l := curve.Pieces(s.c); !slices.Equal(l, s.lengths) {
			t.Error(i, l, s.lengths)
		}
		if n := curve.Length(s.c); n != s.length {
			t.Error(i, n, s.length)
		}
	}
}

func TestPieceExamples(t *testing.T) {
	down := of(0, 0, -3000, -4000, -8000, -4000)
	for i, x := range []struct {
		c      api.Curve
		s      int64
		number int
		within int64
		place  api.Spot
	}{
		{exampleE(), 0, 0, 0, at(0, 0)}, {exampleE(), 1, 0, 1, at(0, 0)}, {exampleE(), 2, 0, 2, at(1, 1)}, {exampleE(), 2500, 0, 2500, at(1500, 2000)},
		{exampleE(), 4999, 0, 4999, at(2999, 3999)}, {exampleE(), 5000, 1, 0, at(3000, 4000)}, {exampleE(), 5001, 1, 1, at(3001, 4000)},
		{exampleE(), 9999, 1, 4999, at(7999, 4000)}, {exampleE(), 10000, 1, 5000, at(8000, 4000)}, {exampleE(), 10001, 1, 5000, at(8000, 4000)}, {exampleE(), 99999, 1, 5000, at(8000, 4000)},
		{exampleE(), -1, 0, 0, at(0, 0)}, {exampleE(), -3, 0, 0, at(0, 0)}, {exampleE(), math.MinInt64, 0, 0, at(0, 0)}, {exampleE(), math.MaxInt64, 1, 5000, at(8000, 4000)},
		{down, 1, 0, 1, at(-1, -1)}, {down, 2, 0, 2, at(-2, -2)}, {down, 5, 0, 5, at(-3, -4)}, {down, 4999, 0, 4999, at(-3000, -4000)}, {down, 5001, 1, 1, at(-3001, -4000)},
		{row(16), 14999, 14, 999, at(14999, 0)}, {row(16), 15000, 14, 1000, at(15000, 0)}, {row(16), 14000, 14, 0, at(14000, 0)}, {row(16), 999, 0, 999, at(999, 0)},
	} {
		if n, s := curve.Piece(x.c, x.s); n != x.number || s != x.within {
			t.Error(i, n, s)
		}
		if p := curve.At(x.c, x.s); p != x.place {
			t.Error(i, p)
		}
	}
}

func TestPiece(t *testing.T) {
	d := &dice{22}
	for i, x := range samples(23) {
		for _, s := range x.offsets(d) {
			n, within := curve.Piece(x.c, s)
			if n < 0 || n >= len(x.starts) || x.starts[n]+within != s || within < 0 || within > x.lengths[n] || within == x.lengths[n] && s != x.length {
				t.Error(i, s, n, within)
			}
			if p := curve.At(x.c, s); p != x.place(s) {
				t.Error(i, s, p, x.place(s))
			}
		}
		for _, far := range []int64{1, 1000, math.MaxInt64 - x.length} {
			n, within := curve.Piece(x.c, x.length+far)
			if n != len(x.starts)-1 || within != x.lengths[n] || curve.At(x.c, x.length+far) != x.c.Pts[n+1] {
				t.Error(i, n, within)
			}
			if n, within := curve.Piece(x.c, -far); n != 0 || within != 0 || curve.At(x.c, -far) != x.c.Pts[0] {
				t.Error(i, n, within)
			}
		}
	}
}
