package curve_test

import (
	"math"
	"math/big"
	"slices"
	"testing"

	"kerbstone/api"
	"kerbstone/curve"
)

func TestCorridorsExamples(t *testing.T) {
	const m = api.MaxSpot
	a, b, d := exampleA(), exampleB(), exampleD()
	for i, x := range []struct {
		a    api.Curve
		ha   int64
		b    api.Curve
		hb   int64
		want []api.Cross
	}{
		{a, 1000, b, 500, []api.Cross{{FromA: 4499, ToA: 5501, FromB: 3999, ToB: 6001}}},
		{b, 500, a, 1000, []api.Cross{{FromA: 3999, ToA: 6001, FromB: 4499, ToB: 5501}}},
		{a, 1000, d, 500, []api.Cross{{FromA: 0, ToA: 10000, FromB: 0, ToB: 10000}}},
		{a, 999, d, 500, nil}, {a, 1000, d, 499, nil}, {a, 0, d, 1500, []api.Cross{{ToA: 10000, ToB: 10000}}}, {a, 0, d, 1499, nil},
		{a, 0, b, 0, []api.Cross{{FromA: 4999, ToA: 5001, FromB: 4999, ToB: 5001}}},
		// Corridors that touch each other in a corner, or along a border.
		{a, 100, of(10000, 0, 13000, 4000), 0, []api.Cross{{FromA: 9999, ToA: 10000, FromB: 0, ToB: 1}}},
		{a, 100, of(10000, 100, 10000, 5000), 0, []api.Cross{{FromA: 9999, ToA: 10000, FromB: 0, ToB: 1}}},
		{a, 100, of(10000, 101, 10000, 5000), 0, nil}, {a, 100, of(10001, 100, 10001, 5000), 0, nil}, {a, 100, of(10001, 100, 10001, 5000), 1, []api.Cross{{FromA: 9999, ToA: 10000, FromB: 0, ToB: 1}}},
		{a, 100, of(10000, 0, 20000, 0), 7, []api.Cross{{FromA: 9999, ToA: 10000, FromB: 0, ToB: 1}}}, {a, 100, of(10001, 0, 20000, 0), 7, nil},
		{a, 0, of(10000, 0, 20000, 0), 0, []api.Cross{{FromA: 9999, ToA: 10000, FromB: 0, ToB: 1}}}, {a, 0, of(10001, 0, 20000, 0), 0, nil}, {a, 0, of(2000, 0, 4000, 0), 0, []api.Cross{{FromA: 1999, ToA: 4001, FromB: 0, ToB: 2000}}},
		{a, 0, of(1, 0, 9999, 0), 0, []api.Cross{{FromA: 0, ToA: 10000, FromB: 0, ToB: 9998}}}, {a, 0, of(2, 0, 9998, 0), 0, []api.Cross{{FromA: 1, ToA: 9999, FromB: 0, ToB: 9996}}},
		{a, 0, of(20000, 0, 10000, 0), 0, []api.Cross{{FromA: 9999, ToA: 10000, FromB: 9999, ToB: 10000}}}, {a, 0, of(20001, 0, 10001, 0), 0, nil},
		{of(0, 0, 3000, 4000), 0, of(6000, 8000, 3000, 4000), 0, []api.Cross{{FromA: 4999, ToA: 5000, FromB: 4999, ToB: 5000}}},
		// Common points whose feet have no whole offset among them.
		{of(0, 0, 3000, 4000), 0, of(0, 1, 3000, 1), 0, []api.Cross{{FromA: 1, ToA: 2, FromB: 0, ToB: 1}}},
		{a, -1, b, 5, nil}, {a, 5, b, -1, nil}, {a, api.MaxHalf, b, api.MaxHalf, []api.Cross{{FromA: 999, ToA: 9001, FromB: 999, ToB: 9001}}}, {a, api.MaxHalf + 1, b, 5, nil}, {a, 5, b, api.MaxHalf + 1, nil}, {a, math.MinInt64, b, math.MaxInt64, nil},
		{a, 5, of(m-2000, 0, m, 0), 5, nil}, {of(-m, -m, api.MaxPiece-m, -m), api.MaxHalf, of(m, m, m-api.MaxPiece, m), api.MaxHalf, nil},
		{exampleE(), 10, of(7990, 0, 7990, 6000), 0, []api.Cross{{FromA: 9989, ToA: 9991, FromB: 3989, ToB: 4011}}},
		// The pairs come by the pieces of the one, then by those of the other one.
		{row(3), 5, row(3), 5, []api.Cross{{ToA: 1000, ToB: 1000}, {FromA: 999, ToA: 1000, FromB: 1000, ToB: 1001}, {FromA: 1000, ToA: 1001, FromB: 999, ToB: 1000}, {FromA: 1000, ToA: 2000, FromB: 1000, ToB: 2000}}},
		{row(4), 0, of(2500, 0, 500, 0), 0, []api.Cross{{FromA: 499, ToA: 1000, FromB: 1499, ToB: 2000}, {FromA: 1000, ToA: 2000, FromB: 499, ToB: 1501}, {FromA: 2000, ToA: 2501, FromB: 0, ToB: 501}}},
	} {
		if l := curve.Corridors(x.a, x.ha, x.b, x.hb); !slices.Equal(l, x.want) {
			t.Error(i, l)
		}
	}
}

// place is a place in the plane with fractions as coordinates.
type place struct{ x, y *big.Rat }

func ratio(n int64) *big.Rat          { return big.NewRat(n, 1) }
func sum(a, b *big.Rat) *big.Rat      { return new(big.Rat).Add(a, b) }
func less(a, b *big.Rat) *big.Rat     { return new(big.Rat).Sub(a, b) }
func times(a, b *big.Rat) *big.Rat    { return new(big.Rat).Mul(a, b) }
func (p place) foot(f frame) *big.Rat { return sum(times(p.x, f.ux), times(p.y, f.uy)) }
func (p place) side(f frame) *big.Rat { return less(times(p.y, f.ux), times(p.x, f.uy)) }

// frame is a piece: where it begins, the vector of length 1 along it, and its
// length.
type frame struct {
	begin  api.Spot
	ux, uy *big.Rat
	length int64
}

func (s sample) frame(i int) frame {
	v, n := s.ways[i], s.lengths[i]
	return frame{s.c.Pts[i], big.NewRat(v.X, n), big.NewRat(v.Y, n), n}
}

// corners returns the corners of the corridor of f, less the spot o.
func (f frame) corners(half int64, o api.Spot) []place {
	var l []place
	for _, c := range [][2]int64{{0, -half}, {f.length, -half}, {f.length, half}, {0, half}} {
		s, h := ratio(c[0]), ratio(c[1])
		l = append(l, place{
			sum(ratio(f.begin.X-o.X), less(times(f.ux, s), times(f.uy, h))),
			sum(ratio(f.begin.Y-o.Y), sum(times(f.uy, s), times(f.ux, h))),
		})
	}
	return l
}

// cut returns the corners of the part of a convex polygon in which value is not
// below 0.
func cut(l []place, value func(place) *big.Rat) []place {
	var out []place
	for i, p := range l {
		q := l[(i+1)%len(l)]
		a, b := value(p), value(q)
		if a.Sign() >= 0 {
			out = append(out, p)
		}
		if a.Sign()*b.Sign() < 0 {
			t := new(big.Rat).Quo(a, less(a, b))
			out = append(out, place{sum(p.x, times(t, less(q.x, p.x))), sum(p.y, times(t, less(q.y, p.y)))})
		}
	}
	return out
}

// reach returns the least and the greatest foot of all common points of both
// corridors in the piece f, rounded up and down.
func (f frame) reach(half int64, g frame, other int64) (int64, int64, bool) {
	l := g.corners(other, f.begin)
	l = cut(l, func(p place) *big.Rat { return p.foot(f) })
	l = cut(l, func(p place) *big.Rat { return less(ratio(f.length), p.foot(f)) })
	l = cut(l, func(p place) *big.Rat { return sum(ratio(half), p.side(f)) })
	l = cut(l, func(p place) *big.Rat { return less(ratio(half), p.side(f)) })
	if len(l) == 0 {
		return 0, 0, false
	}
	s, t := l[0].foot(f), l[0].foot(f)
	for _, p := range l {
		if p.foot(f).Cmp(s) < 0 {
			s = p.foot(f)
		}
		if p.foot(f).Cmp(t) > 0 {
			t = p.foot(f)
		}
	}
	return up(s), down(t), true
}

// crosses is what Corridors should return: it cuts polygons with fractions.
func crosses(a sample, ha int64, b sample, hb int64) []api.Cross {
	var l []api.Cross
	for i := range a.ways {
		for j := range b.ways {
			f, g := a.frame(i), b.frame(j)
			s, t, ok := f.reach(ha, g, hb)
			if !ok {
				continue
			}
			u, v, _ := g.reach(hb, f, ha)
			l = append(l, api.Cross{
				FromA: a.starts[i] + max(0, s-1), ToA: a.starts[i] + min(f.length, t+1),
				FromB: b.starts[j] + max(0, u-1), ToB: b.starts[j] + min(g.length, v+1),
			})
		}
	}
	return l
}

// partner returns a curve that comes close to s: through a spot near it, or
// beside one of its pieces.
func (s sample) partner(d *dice, count int, most int64) sample {
	p := s.around(d)
	if d.pick(0, 1) == 0 {
		p = s.c.Pts[d.roll(0, int64(len(s.ways)))]
	}
	o := d.sample(count, most, 0)
	i := d.roll(0, int64(len(o.ways)))
	return sampleOf(moved(o.c, at(p.X-o.c.Pts[i].X, p.Y-o.c.Pts[i].Y)))
}

func TestCorridors(t *testing.T) {
	d := &dice{51}
	found := 0
	for i := range 400 {
		most := d.pick(1100, 6000, 100000, api.MaxPiece)
		a := d.sample(1+i%3, most, 5000)
		b := a.partner(d, 1+i%2, d.pick(most, most, 1100))
		ha, hb := d.pick(0, 0, 1, 5, 1500, api.MaxHalf), d.pick(0, 0, 1, 5, 1500, api.MaxHalf)
		l, want := curve.Corridors(a.c, ha, b.c, hb), crosses(a, ha, b, hb)
		if !slices.Equal(l, want) {
			t.Fatal(i, a.c, ha, b.c, hb, l, want)
		}
		found += len(l)
	}
	if found < 300 {
		t.Error("too few corridors meet to show anything:", found)
	}
}

// Corridors of lanes that run along each other touch exactly where the half
// widths add up to the distance.
func TestCorridorsBeside(t *testing.T) {
	d := &dice{52}
	for i := range 200 {
		a := d.sample(1, d.pick(6000, api.MaxPiece), 5000)
		v, n := a.ways[0], a.lengths[0]
		k := d.roll(1, 60)
		var unit int64 = 1
		for _, g := range []int64{169, 37, 29, 17, 13, 5} {
			if v.X*g%n == 0 && v.Y*g%n == 0 {
				unit = g
			}
		}
		if v.X*unit%n != 0 {
			continue
		}
		aside := at(-v.Y*unit/n*k, v.X*unit/n*k)
		b := sampleOf(moved(a.c, aside))
		for _, h := range []int64{unit*k - 1, unit * k, unit*k + 1} {
			if h > api.MaxHalf*2 {
				continue
			}
			ha := min(h, d.roll(0, api.MaxHalf))
			hb := h - ha
			if hb > api.MaxHalf {
				ha, hb = h-api.MaxHalf, api.MaxHalf
			}
			l := curve.Corridors(a.c, ha, b.c, hb)
			if (len(l) == 1) != (h >= unit*k) || !slices.Equal(l, crosses(a, ha, b, hb)) {
				t.Fatal(i, a.c, ha, b.c, hb, l)
			}
		}
	}
}

// On a grid corners and borders often meet.
func TestCorridorsGrid(t *testing.T) {
	d := &dice{53}
	ways := []api.Spot{at(1000, 0), at(0, 1000), at(-1000, 0), at(0, -1000), at(600, 800), at(800, 600), at(-600, 800), at(800, -600), at(2000, 0), at(0, 2000)}
	one := func() sample {
		p, v := at(200*d.roll(0, 10), 200*d.roll(0, 10)), ways[d.roll(0, 9)]
		return sampleOf(of(p.X, p.Y, p.X+v.X, p.Y+v.Y))
	}
	for i := range 3000 {
		a, b := one(), one()
		ha, hb := 100*d.roll(0, 6), 100*d.roll(0, 6)
		if l, want := curve.Corridors(a.c, ha, b.c, hb), crosses(a, ha, b, hb); !slices.Equal(l, want) {
			t.Fatal(i, a.c, ha, b.c, hb, l, want)
		}
	}
}
