package curve_test

import (
	"math"
	"slices"
	"testing"

	"kerbstone/api"
	"kerbstone/curve"
)

// roomy returns the curve with room behind its points, which is filled.
func roomy(c api.Curve) (api.Curve, []api.Spot) {
	all := slices.Clone(c.Pts)
	for i := range int64(20) {
		all = append(all, at(-i, i))
	}
	return api.Curve{Pts: all[:len(c.Pts)]}, all
}

func TestArgumentsStay(t *testing.T) {
	a, allA := roomy(exampleA())
	b, allB := roomy(of(10000, 0, 13000, 4000))
	bad, allBad := roomy(of(10000, 0, 10000, 5000))
	before := [][]api.Spot{slices.Clone(allA), slices.Clone(allB), slices.Clone(allBad)}
	for _, c := range []api.Curve{b, bad, a} {
		curve.Check(c)
		curve.Length(c)
		curve.Pieces(c)
		curve.Piece(c, 7)
		curve.At(c, 7)
		curve.Near(c, at(1, 1), 100)
		curve.Holds(c, 100, at(1, 1))
		curve.Corridors(a, 100, c, 100)
		curve.Join(a, c)
		curve.Same(a, c)
		curve.Copy(c)
	}
	for i, l := range [][]api.Spot{allA, allB, allBad} {
		if !slices.Equal(l, before[i]) {
			t.Error(i, "was changed", l)
		}
	}
}

func TestResultsAreNew(t *testing.T) {
	a, allA := roomy(exampleA())
	b, _ := roomy(of(10000, 0, 13000, 4000))
	joined, e := curve.Join(a, b)
	copied := curve.Copy(a)
	if e != api.OK {
		t.Fatal(e)
	}
	for i := range joined.Pts {
		joined.Pts[i] = at(7, 7)
	}
	for i := range copied.Pts {
		copied.Pts[i] = at(8, 8)
	}
	copied.Pts = append(copied.Pts, at(9, 9))
	if !same(a, exampleA()) || !same(b, of(10000, 0, 13000, 4000)) || allA[2] != at(0, 0) {
		t.Error("a result shares memory with an argument", a, b)
	}
	again, _ := curve.Join(a, b)
	a.Pts[0].Y, b.Pts[1].Y = 5, 5
	if !same(again, of(0, 0, 10000, 0, 13000, 4000)) {
		t.Error("a result shares memory with an argument or with another result", again)
	}
	lengths := curve.Pieces(exampleE())
	lengths[0] = 7
	if !slices.Equal(curve.Pieces(exampleE()), []int64{5000, 5000}) {
		t.Error("Pieces returns the same memory twice")
	}
}

func TestAnyArguments(t *testing.T) {
	numbers := []int64{math.MinInt64, math.MinInt64 + 1, -api.MaxSpot - 1, -api.MaxSpot, -1, 0, 1, 1000, api.MaxHalf, api.MaxSpot, 2 * api.MaxSpot, math.MaxInt64}
	curves := append(invalid(), exampleE(), of(math.MinInt64, math.MaxInt64, math.MaxInt64, math.MinInt64), of(0, 0, math.MaxInt64, math.MaxInt64, math.MinInt64, math.MinInt64), row(5000))
	for _, x := range numbers {
		for _, y := range numbers {
			p := at(x, y)
			curve.Side(p, at(y, x), at(y, y))
			curve.Dist2(p, at(y, x))
			curve.Blocks(p, at(y, x), at(x, x), at(y, y))
			curve.Sees(p, at(y, x), x)
			for _, c := range curves {
				curve.Piece(c, x)
				curve.At(c, x)
				curve.Near(c, p, x)
				curve.Holds(c, y, p)
				curve.Corridors(c, x, exampleE(), y)
			}
		}
	}
	for _, a := range curves {
		for _, b := range curves {
			curve.Join(a, b)
			curve.Same(a, curve.Copy(b))
		}
	}
}
