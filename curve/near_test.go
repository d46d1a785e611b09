package curve_test

import (
	"math"
	"math/big"
	"slices"
	"testing"

	"kerbstone/api"
	"kerbstone/curve"
)

func TestNearExamples(t *testing.T) {
	const m = api.MaxSpot
	flat, steep := of(0, 0, 10000, 0), of(0, 0, -3000, 4000)
	for i, x := range []struct {
		c     api.Curve
		p     api.Spot
		reach int64
		want  []int64
	}{
		{exampleE(), at(4000, 5000), 1000, []int64{6000}}, {exampleE(), at(3000, 4000), 0, []int64{5000, 5000}}, {exampleE(), at(4000, 5001), 1000, nil}, {exampleE(), at(4000, 5000), 999, nil},
		{exampleE(), at(0, 0), m, []int64{0, 5000}}, {exampleE(), at(0, 0), m + 1, nil}, {exampleE(), at(0, 0), -1, nil}, {exampleE(), at(0, 0), math.MaxInt64, nil}, {exampleE(), at(0, 0), math.MinInt64, nil},
		// The distance is at most the reach, on both sides.
		{flat, at(5000, 700), 700, []int64{5000}}, {flat, at(5000, -700), 700, []int64{5000}}, {flat, at(5000, 700), 699, nil}, {flat, at(5000, -700), 699, nil},
		// The foot is at most the reach before the beginning, or behind the end.
		{flat, at(-20, 0), 20, []int64{0}}, {flat, at(-21, 0), 20, nil}, {flat, at(10020, 20), 20, []int64{10000}}, {flat, at(10021, 0), 20, nil}, {flat, at(-20, -20), 20, []int64{0}},
		{steep, at(3, -4), 5, []int64{0}}, {steep, at(3, -4), 4, nil}, {steep, at(-3003, 4004), 5, []int64{5000}}, {steep, at(-3003, 4004), 4, nil}, {steep, at(4, 3), 5, []int64{0}}, {steep, at(-4, -3), 4, nil}, {steep, at(-4, -3), 5, []int64{0}},
		// The foot is rounded down, also before the beginning.
		{steep, at(-1, 1), 2, []int64{1}}, {steep, at(-1, 2), 2, []int64{2}}, {steep, at(1, 0), 2, []int64{0}}, {steep, at(-2999, 3999), 2, []int64{4998}},
		{flat, at(m, 0), m, []int64{10000}}, {flat, at(-m, -m), m, []int64{0}}, {of(10000, 0, 0, 0), at(m, m), m, []int64{0}}, {of(10000, 1, 0, 1), at(-m, 1-m), m, []int64{10000}}, {of(10001, 1, 1, 1), at(-m, 1-m), m, nil},
	} {
		if l := curve.Near(x.c, x.p, x.reach); !slices.Equal(l, x.want) {
			t.Error(i, l)
		}
	}
	for i, p := range outside() {
		if l := curve.Near(flat, p, m); len(l) > 0 {
			t.Error(i, l)
		}
	}
}

func TestHoldsExamples(t *testing.T) {
	flat, steep := of(0, 0, 10000, 0), of(0, 0, -3000, 4000)
	for i, x := range []struct {
		c    api.Curve
		half int64
		p    api.Spot
		want bool
	}{
		{exampleE(), 1000, at(4000, 5000), true}, {exampleE(), 999, at(4000, 5000), false}, {exampleE(), 0, at(1500, 2000), true}, {exampleE(), 0, at(1500, 2001), false}, {exampleE(), 0, at(3000, 4000), true},
		{flat, 700, at(5000, 700), true}, {flat, 700, at(5000, -700), true}, {flat, 700, at(5000, 701), false}, {flat, 700, at(5000, -701), false},
		{flat, 700, at(0, 700), true}, {flat, 700, at(-1, 0), false}, {flat, 700, at(10000, -700), true}, {flat, 700, at(10001, 0), false},
		{steep, 5, at(4, 3), true}, {steep, 4, at(4, 3), false}, {steep, 5, at(-3004, 3997), true}, {steep, 4, at(-3004, 3997), false}, {steep, 5, at(3, -4), false}, {steep, 5, at(5, 3), false},
		{flat, api.MaxHalf, at(1, api.MaxHalf), true}, {flat, api.MaxHalf + 1, at(1, 0), false}, {flat, -1, at(1, 0), false}, {flat, math.MinInt64, at(1, 0), false}, {flat, math.MaxInt64, at(1, 0), false},
		// Between the corridors of two pieces, outside of the turn, there is a gap.
		{exampleE(), 1000, at(2500, 4900), false}, {exampleE(), 1000, at(2300, 4500), true}, {exampleE(), 1000, at(3000, 4900), true},
	} {
		if b := curve.Holds(x.c, x.half, x.p); b != x.want {
			t.Error(i, b)
		}
	}
	for i, p := range outside() {
		if curve.Holds(flat, 4000, p) {
			t.Error(i)
		}
	}
}

// measure returns foot and distance of p in the piece i of s, as fractions.
func measure(s sample, i int, p api.Spot) (foot, distance *big.Rat) {
	v, from := s.ways[i], s.c.Pts[i]
	q := at(p.X-from.X, p.Y-from.Y)
	foot = big.NewRat(v.X*q.X+v.Y*q.Y, s.lengths[i])
	distance = big.NewRat(v.X*q.Y-v.Y*q.X, s.lengths[i])
	return foot, distance.Abs(distance)
}

// down rounds a fraction down.
func down(r *big.Rat) int64 { return new(big.Int).Div(r.Num(), r.Denom()).Int64() }

// up rounds a fraction up.
func up(r *big.Rat) int64 { return -down(new(big.Rat).Neg(r)) }

// near is what Near should return.
func near(s sample, p api.Spot, reach int64) []int64 {
	var l []int64
	for i := range s.ways {
		foot, distance := measure(s, i, p)
		if distance.Cmp(big.NewRat(reach, 1)) > 0 || foot.Cmp(big.NewRat(-reach, 1)) < 0 || foot.Cmp(big.NewRat(s.lengths[i]+reach, 1)) > 0 {
			continue
		}
		l = append(l, s.starts[i]+min(max(down(foot), 0), s.lengths[i]))
	}
	return l
}

// holds is what Holds should return.
func holds(s sample, half int64, p api.Spot) bool {
	for i := range s.ways {
		foot, distance := measure(s, i, p)
		if distance.Cmp(big.NewRat(half, 1)) <= 0 && foot.Sign() >= 0 && foot.Cmp(big.NewRat(s.lengths[i], 1)) <= 0 {
			return true
		}
	}
	return false
}

// bounds returns the whole numbers next to the foot and to the distance of p in
// each piece: there Near and Holds change.
func bounds(s sample, p api.Spot) []int64 {
	l := []int64{0, api.MaxHalf, api.MaxSpot}
	for i := range s.ways {
		foot, distance := measure(s, i, p)
		for _, n := range []int64{up(distance), -down(foot), up(foot) - s.lengths[i]} {
			for k := n - 1; k <= n+1; k++ {
				if k >= 0 && k <= api.MaxSpot {
					l = append(l, k)
				}
			}
		}
	}
	return l
}

// around returns a spot that is near the place of an offset of the curve, or a
// corner of a corridor of the piece there.
func (s sample) around(d *dice) api.Spot {
	i := d.roll(0, int64(len(s.ways))-1)
	v, n := s.ways[i], s.lengths[i]
	p := s.place(s.starts[i] + d.pick(0, 0, n-1, d.roll(0, n-1)))
	h := d.pick(0, 1, 5, 29, d.roll(0, api.MaxHalf))
	along, aside := d.pick(0, 0, -h, h), d.pick(-h, h)
	return at(p.X+(v.X*along-v.Y*aside)/n+d.pick(0, 0, 1, -1), p.Y+(v.Y*along+v.X*aside)/n+d.pick(0, 0, 1, -1))
}

func TestNear(t *testing.T) {
	d := &dice{41}
	for i, s := range samples(42) {
		for range 12 {
			p := s.around(d)
			if max(p.X, -p.X, p.Y, -p.Y) > api.MaxSpot {
				continue
			}
			for _, n := range bounds(s, p) {
				if l, want := curve.Near(s.c, p, n), near(s, p, n); !slices.Equal(l, want) {
					t.Fatal(i, p, n, l, want)
				}
				if b := curve.Holds(s.c, n, p); b != (n <= api.MaxHalf && holds(s, n, p)) {
					t.Fatal(i, p, n, b)
				}
			}
		}
	}
}

// The feet in this piece go by steps of 1/1985, so that spots are beside its
// corridor by this least difference.
func TestNearFractions(t *testing.T) {
	s := sampleOf(of(0, 0, 63, 1984))
	for x := int64(-66); x <= 66; x++ {
		for y := int64(-9); y <= 9; y++ {
			for _, p := range []api.Spot{at(x, y), at(63+x, 1984+y)} {
				_, distance := measure(s, 0, p)
				for n := max(0, up(distance)-1); n <= up(distance)+1; n++ {
					if l, want := curve.Near(s.c, p, n), near(s, p, n); !slices.Equal(l, want) {
						t.Fatal(p, n, l, want)
					}
					if b := curve.Holds(s.c, n, p); b != holds(s, n, p) {
						t.Fatal(p, n, b)
					}
				}
			}
		}
	}
	if curve.Holds(s.c, 70, at(-63, 2)) || !curve.Holds(s.c, 70, at(63, -2)) || curve.Holds(s.c, 70, at(126, 1982)) || !curve.Holds(s.c, 70, at(0, 1986)) {
		t.Error("a foot of -1/1985 is before the piece, one of 1/1985 is in it; likewise at the end")
	}
}
