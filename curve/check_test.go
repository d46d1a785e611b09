package curve_test

import (
	"math"
	"math/big"
	"testing"

	"kerbstone/api"
	"kerbstone/curve"
)

func TestCheckReasons(t *testing.T) {
	long := row(17)
	long.Pts[0].X = api.MaxSpot + 1
	for i, x := range []struct {
		c    api.Curve
		want api.Errno
	}{
		{exampleE(), api.OK},
		{of(), api.ErrShort}, {api.Curve{Pts: []api.Spot{}}, api.ErrShort}, {of(0, 0), api.ErrShort},
		{row(2), api.OK}, {row(16), api.OK}, {row(17), api.ErrLong}, {row(400), api.ErrLong},
		{of(api.MaxSpot, 0, api.MaxSpot-1000, 0), api.OK}, {of(0, api.MaxSpot, 0, api.MaxSpot-1000), api.OK},
		{of(-api.MaxSpot, 0, 1000-api.MaxSpot, 0), api.OK}, {of(0, -api.MaxSpot, 0, 1000-api.MaxSpot), api.OK},
		{of(api.MaxSpot+1, 0, api.MaxSpot-999, 0), api.ErrRange}, {of(0, api.MaxSpot+1, 0, api.MaxSpot-999), api.ErrRange},
		{of(-api.MaxSpot-1, 0, 999-api.MaxSpot, 0), api.ErrRange}, {of(0, -api.MaxSpot-1, 0, 999-api.MaxSpot), api.ErrRange},
		{of(0, 0, 1000, 0, api.MaxSpot+1, 0), api.ErrRange},
		{of(0, 0, math.MaxInt64, 0), api.ErrRange}, {of(0, math.MinInt64, 0, 0), api.ErrRange},
		{of(0, 0, 1000, 1000), api.ErrForm}, {of(0, 0, 1000, 1), api.ErrForm}, {of(0, 0, 1, 1), api.ErrForm}, {of(0, 0, 800000, 800000), api.ErrForm},
		{of(0, 0, 600, 800), api.OK}, {of(0, 0, 599, 800), api.ErrForm}, {of(0, 0, -600, 800), api.OK}, {of(0, 0, 63, 1984), api.OK},
		{of(0, 0, 1000, 0), api.OK}, {of(0, 0, 0, -999), api.ErrRange}, {of(0, 0, 300, 400), api.ErrRange}, {of(7, 7, 7, 7), api.ErrRange},
		{of(0, 0, api.MaxPiece, 0), api.OK}, {of(0, 0, 0, api.MaxPiece+1), api.ErrRange}, {of(0, 0, 900000, 1200000), api.ErrRange}, {of(0, 0, 900000, 900001), api.ErrForm},
		{of(-api.MaxSpot, -api.MaxSpot, api.MaxSpot, api.MaxSpot), api.ErrForm}, {of(-api.MaxSpot, 0, api.MaxSpot, 0), api.ErrRange},
		{of(0, 0, 3000, 0, 3000, 2000), api.ErrClash}, {of(0, 0, 3000, 0, 3000, -2000), api.ErrClash}, {of(0, 0, 3000, 0, 1000, 0), api.ErrClash}, {of(0, 0, 3000, 4000, -1000, 7000), api.ErrClash},
		{of(0, 0, 3000, 0, 3063, 1984), api.OK}, {of(0, 0, 3000, 0, 2937, 1984), api.ErrClash}, {of(0, 0, 3000, 0, 4000, 0), api.OK}, {of(0, 0, 63000, 1984000, 0, 3968000), api.ErrRange},
		{of(0, 0, 3000, 0, 6000, 4000, 3000, 8000), api.OK}, {of(0, 0, 3000, 0, 6000, 4000, 2000, 7000), api.ErrClash},
		{of(0, 0, 3000, 0, 5400, 3200, 5400, 7200), api.OK},
		// The reasons that are named first are found first.
		{long, api.ErrLong}, {of(api.MaxSpot+1, 0), api.ErrShort},
		{of(0, 0, 1000, 1000, 0, api.MaxSpot+1), api.ErrRange},
		{of(0, 0, 999, 0, 1999, 1000), api.ErrRange}, {of(0, 0, 1000, 1000, 1999, 1000), api.ErrForm},
		{of(0, 0, 3000, 0, 3000, 2000, 4000, 3000), api.ErrClash}, {of(0, 0, 3000, 0, 3000, 2000, 3999, 2000), api.ErrClash},
		{of(0, 0, 3000, 0, 3000, 999), api.ErrRange}, {of(0, 0, 3000, 0, 2999, 999), api.ErrForm}, {of(0, 0, 3000, 0, 2000, 1000), api.ErrForm},
	} {
		if e := curve.Check(x.c); e != x.want {
			t.Error(i, x.c, e, x.want)
		}
	}
}

func TestCheckWhole(t *testing.T) {
	d := &dice{11}
	check := func(x, y int64) {
		square := big.NewInt(x*x + y*y)
		length := new(big.Int).Sqrt(square)
		want := api.OK
		if new(big.Int).Mul(length, length).Cmp(square) != 0 {
			want = api.ErrForm
		} else if length.Int64() < api.MinPiece || length.Int64() > api.MaxPiece {
			want = api.ErrRange
		}
		if e := curve.Check(of(0, 0, x, y)); e != want {
			t.Error(x, y, e, want)
		}
	}
	for range 3000 {
		check(d.roll(-3000, 3000), d.roll(-3000, 3000))
		check(d.roll(-api.MaxSpot, api.MaxSpot), d.roll(-9, 9))
		way, _ := d.way(api.MaxPiece)
		check(way.X, way.Y)
		check(way.X+d.roll(-1, 1), way.Y+d.roll(-1, 1))
		k := d.roll(1, 2800)
		check(2*k*k, 2*k) // one less than the square of a whole number
		check(2*k, -2*k*k)
	}
}

func TestInvalidCurves(t *testing.T) {
	good := exampleA()
	for i, c := range invalid() {
		if curve.Check(c) == api.OK {
			t.Error(i, "is valid")
		}
		if curve.Length(c) != 0 || len(curve.Pieces(c)) > 0 {
			t.Error(i, curve.Length(c), curve.Pieces(c))
		}
		for _, s := range []int64{-1, 0, 1, 500, 1000, math.MaxInt64} {
			if n, s := curve.Piece(c, s); n != 0 || s != 0 {
				t.Error(i, n, s)
			}
			if p := curve.At(c, s); p != at(0, 0) {
				t.Error(i, p)
			}
		}
		for _, p := range append([]api.Spot{{}}, c.Pts...) {
			if l := curve.Near(c, p, 5000); len(l) > 0 || curve.Holds(c, 1000, p) {
				t.Error(i, p, l)
			}
		}
		if len(curve.Corridors(c, 1000, good, 1000)) > 0 || len(curve.Corridors(good, 1000, c, 1000)) > 0 || len(curve.Corridors(c, 1000, c, 1000)) > 0 {
			t.Error(i, "has corridors")
		}
	}
}
