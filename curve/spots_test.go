package curve_test

import (
	"math"
	"math/big"
	"testing"

	"kerbstone/api"
	"kerbstone/curve"
)

// grid returns all spots of a small square.
func grid(n int64) []api.Spot {
	var l []api.Spot
	for x := range n {
		for y := range n {
			l = append(l, at(x, y))
		}
	}
	return l
}

// outside are spots that are not valid.
func outside() []api.Spot {
	return []api.Spot{
		at(api.MaxSpot+1, 0), at(-api.MaxSpot-1, 0), at(0, api.MaxSpot+1), at(0, -api.MaxSpot-1),
		at(math.MaxInt64, 0), at(math.MinInt64, 0), at(0, math.MaxInt64), at(0, math.MinInt64),
	}
}

func TestSide(t *testing.T) {
	const m = api.MaxSpot
	for i, x := range []struct {
		a, b, c api.Spot
		want    int
	}{
		{at(0, 0), at(1, 0), at(0, 1), 1}, {at(0, 0), at(1, 0), at(0, -1), -1}, {at(0, 0), at(1, 0), at(9, 0), 0}, {at(0, 0), at(2, 2), at(-7, -7), 0},
		{at(0, 0), at(0, 1), at(1, 5), -1}, {at(0, 0), at(0, 1), at(-1, 5), 1}, {at(5, 5), at(5, 5), at(1, 2), 0}, {at(0, 0), at(-1, 0), at(0, 1), -1},
		{at(-m, -m), at(m, m), at(-m, m), 1}, {at(-m, -m), at(m, m), at(m, -m), -1}, {at(-m, -m), at(m, m), at(m, m-1), -1}, {at(-m, -m), at(m, m), at(m-1, m), 1}, {at(-m, -m), at(m, m), at(m-1, m-1), 0},
	} {
		if n := curve.Side(x.a, x.b, x.c); n != x.want {
			t.Error(i, n)
		}
	}
	for i, p := range outside() {
		if curve.Side(p, at(1, 0), at(0, 1)) != 0 || curve.Side(at(0, 0), p, at(3, 4)) != 0 || curve.Side(at(0, 0), at(3, 4), p) != 0 {
			t.Error(i, p)
		}
	}
	d := &dice{31}
	for range 2000 {
		a, b, c := at(d.roll(-m, m), d.roll(-m, m)), at(d.roll(-m, m), d.roll(-m, m)), at(d.roll(-m, m), d.roll(-m, m))
		left := new(big.Int).Mul(big.NewInt(b.X-a.X), big.NewInt(c.Y-a.Y))
		if n := curve.Side(a, b, c); n != left.Sub(left, new(big.Int).Mul(big.NewInt(b.Y-a.Y), big.NewInt(c.X-a.X))).Sign() {
			t.Error(a, b, c, n)
		}
	}
}

func TestDist2(t *testing.T) {
	const m = api.MaxSpot
	for i, x := range []struct {
		a, b api.Spot
		want int64
	}{
		{at(0, 0), at(3, 4), 25}, {at(1, 1), at(1, 1), 0}, {at(-2, 0), at(0, -5), 29}, {at(-m, -m), at(m, m), 8 * m * m}, {at(m, 0), at(m, 1), 1},
	} {
		if n := curve.Dist2(x.a, x.b); n != x.want {
			t.Error(i, n)
		}
	}
	for i, p := range outside() {
		if curve.Dist2(p, at(0, 0)) != 0 || curve.Dist2(at(0, 0), p) != 0 || curve.Dist2(p, p) != 0 {
			t.Error(i, p)
		}
	}
}

func TestSees(t *testing.T) {
	const m = api.MaxSpot
	for i, x := range []struct {
		eye, p api.Spot
		view   int64
		want   bool
	}{
		{at(0, 0), at(3, 4), 5, true}, {at(0, 0), at(3, 4), 4, false}, {at(0, 0), at(3, 4), 6, true}, {at(3, 4), at(-3, -4), 10, true}, {at(3, 4), at(-3, -4), 9, false},
		{at(7, 7), at(7, 7), 0, true}, {at(7, 7), at(7, 8), 0, false}, {at(7, 7), at(7, 7), -1, false}, {at(0, 0), at(3, 4), -5, false}, {at(0, 0), at(3, 4), math.MinInt64, false},
		{at(-m, 0), at(m, 0), 2 * m, true}, {at(-m, 0), at(m, 1), 2 * m, false}, {at(-m, 0), at(m, 0), 2*m - 1, false}, {at(0, 0), at(0, 0), 2*m + 1, false}, {at(0, 0), at(0, 0), math.MaxInt64, false},
		{at(0, 0), at(1000, 1), 1000, false}, {at(0, 0), at(1000, 1), 1001, true},
	} {
		if b := curve.Sees(x.eye, x.p, x.view); b != x.want {
			t.Error(i, b)
		}
	}
	for i, p := range outside() {
		if curve.Sees(p, at(0, 0), 2*m) || curve.Sees(at(0, 0), p, 2*m) || curve.Sees(p, p, 0) {
			t.Error(i, p)
		}
	}
}

func TestBlocksExamples(t *testing.T) {
	const m = api.MaxSpot
	for i, x := range []struct {
		a, b, c, d api.Spot
		want       bool
	}{
		{at(0, 0), at(10, 0), at(5, -5), at(5, 5), true}, {at(0, 0), at(10, 0), at(5, -5), at(5, 0), true}, {at(0, 0), at(10, 0), at(5, -5), at(5, -1), false},
		{at(0, 0), at(10, 0), at(11, 0), at(20, 0), false}, {at(0, 0), at(10, 0), at(10, 0), at(20, 0), true}, {at(0, 0), at(10, 0), at(2, 0), at(4, 0), true},
		{at(0, 0), at(10, 10), at(11, 11), at(20, 20), false}, {at(0, 0), at(10, 10), at(0, 1), at(10, 11), false},
		{at(5, 5), at(5, 5), at(0, 0), at(10, 10), true}, {at(5, 6), at(5, 6), at(0, 0), at(10, 10), false}, {at(11, 11), at(11, 11), at(0, 0), at(10, 10), false},
		{at(1, 2), at(1, 2), at(1, 2), at(1, 2), true}, {at(1, 2), at(1, 2), at(1, 3), at(1, 3), false},
		{at(-m, -m), at(m, m), at(-m, m), at(m, -m), true}, {at(-m, -m), at(m, m), at(-m, 1-m), at(m-1, m), false}, {at(-m, -m), at(m, m-1), at(0, 0), at(m, m), false}, {at(-m, -m), at(m, m-1), at(0, -1), at(m, m), true},
	} {
		if b := curve.Blocks(x.a, x.b, x.c, x.d); b != x.want {
			t.Error(i, b)
		}
	}
	for i, p := range outside() {
		o := at(0, 0)
		if curve.Blocks(p, o, o, o) || curve.Blocks(o, p, o, o) || curve.Blocks(o, o, p, o) || curve.Blocks(o, o, o, p) || curve.Blocks(p, p, p, p) {
			t.Error(i, p)
		}
	}
}

// common reports whether two segments have a common point, by the parameters
// of the point in which their lines cut each other.
func common(a, b, c, d api.Spot) bool {
	on := func(p, a, b api.Spot) bool {
		return (b.X-a.X)*(p.Y-a.Y) == (b.Y-a.Y)*(p.X-a.X) && (p.X-a.X)*(p.X-b.X)+(p.Y-a.Y)*(p.Y-b.Y) <= 0
	}
	v, w, u := at(b.X-a.X, b.Y-a.Y), at(d.X-c.X, d.Y-c.Y), at(c.X-a.X, c.Y-a.Y)
	whole := v.X*w.Y - v.Y*w.X
	if whole == 0 {
		return on(a, c, d) || on(b, c, d) || on(c, a, b) || on(d, a, b)
	}
	i, j := u.X*w.Y-u.Y*w.X, u.X*v.Y-u.Y*v.X
	if whole < 0 {
		whole, i, j = -whole, -i, -j
	}
	return i >= 0 && i <= whole && j >= 0 && j <= whole
}

func TestBlocksGrid(t *testing.T) {
	l := grid(4)
	for _, a := range l {
		for _, b := range l {
			for _, c := range l {
				for _, d := range l {
					if curve.Blocks(a, b, c, d) != common(a, b, c, d) {
						t.Fatal(a, b, c, d)
					}
				}
			}
		}
	}
	dice := &dice{32}
	for range 5000 {
		var s [4]api.Spot
		for i := range s {
			s[i] = at(dice.roll(-20, 20), dice.roll(-20, 20))
		}
		if curve.Blocks(s[0], s[1], s[2], s[3]) != common(s[0], s[1], s[2], s[3]) {
			t.Fatal(s)
		}
	}
}
