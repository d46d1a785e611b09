package curve_test

import (
	"cmp"
	"slices"
	"testing"

	"kerbstone/api"
	"kerbstone/curve"
)

// P1.7
func TestLengthIsSum(t *testing.T) {
	for i, x := range samples(71) {
		var start int64
		for n, length := range curve.Pieces(x.c) {
			if p := curve.At(x.c, start); p != x.c.Pts[n] {
				t.Error(i, n, p)
			}
			if number, within := curve.Piece(x.c, start); number != n || within != 0 {
				t.Error(i, n, number, within)
			}
			start += length
		}
		if start != curve.Length(x.c) || start == 0 || curve.At(x.c, start) != x.c.Pts[len(x.c.Pts)-1] {
			t.Error(i, start)
		}
	}
}

// P1.8
func TestPlacesAreClose(t *testing.T) {
	d := &dice{72}
	for i, x := range samples(73) {
		for _, s := range x.offsets(d) {
			p, q := curve.At(x.c, s), curve.At(x.c, s+1)
			if max(p.X-q.X, q.X-p.X, p.Y-q.Y, q.Y-p.Y) > 1 {
				t.Error(i, s, p, q)
			}
		}
	}
	var step api.Spot
	last := curve.At(exampleE(), 0)
	for s := range curve.Length(exampleE()) {
		p := curve.At(exampleE(), s+1)
		step.X, step.Y = step.X+min(1, max(0, p.X-last.X)), step.Y+min(1, max(0, p.Y-last.Y))
		last = p
	}
	if step != at(8000, 4000) {
		t.Error("the places do not go along the curve by steps of 1:", step)
	}
}

// P1.9
func TestNearOfPlace(t *testing.T) {
	d := &dice{74}
	for i, x := range samples(75) {
		for _, s := range x.offsets(d) {
			for _, reach := range []int64{2, 3, 1000, api.MaxSpot} {
				l := curve.Near(x.c, curve.At(x.c, s), reach)
				if !slices.ContainsFunc(l, func(n int64) bool { return max(n-s, s-n) <= 2 }) {
					t.Error(i, s, reach, l)
				}
			}
		}
	}
}

// P1.10
func TestSpotsExchanged(t *testing.T) {
	d := &dice{76}
	for range 5000 {
		most := d.pick(3, 1000, api.MaxSpot, api.MaxSpot+1)
		spot := func() api.Spot { return at(d.roll(-most, most), d.roll(-most, most)) }
		a, b, c, e := spot(), spot(), spot(), spot()
		if n := curve.Side(a, b, c); n != -curve.Side(b, a, c) || n != -curve.Side(a, c, b) || n != -curve.Side(c, b, a) || n != curve.Side(b, c, a) {
			t.Error(a, b, c, n)
		}
		view := d.roll(0, 2*most)
		if curve.Dist2(a, b) != curve.Dist2(b, a) || curve.Sees(a, b, view) != curve.Sees(b, a, view) {
			t.Error(a, b, view)
		}
		blocks := curve.Blocks(a, b, c, e)
		for i, other := range []bool{curve.Blocks(b, a, c, e), curve.Blocks(a, b, e, c), curve.Blocks(b, a, e, c), curve.Blocks(c, e, a, b), curve.Blocks(e, c, b, a)} {
			if other != blocks {
				t.Error(i, a, b, c, e, blocks)
			}
		}
		if max(a.X, -a.X, a.Y, -a.Y, b.X, -b.X, b.Y, -b.Y, c.X, -c.X, c.Y, -c.Y) > api.MaxSpot {
			continue
		}
		if !curve.Blocks(a, b, b, c) || !curve.Blocks(a, b, c, a) || !curve.Blocks(a, b, a, b) || !curve.Blocks(a, a, a, c) {
			t.Error(a, b, c, "segments with a common end")
		}
	}
}

// P1.11
func TestCorridorsExchanged(t *testing.T) {
	d := &dice{77}
	for i := range 400 {
		a := d.sample(1+i%4, d.pick(1500, 6000, api.MaxPiece), 5000)
		b := a.partner(d, 1+i%5, d.pick(1500, 6000, api.MaxPiece))
		ha, hb := d.roll(0, api.MaxHalf), d.roll(0, api.MaxHalf)
		l := curve.Corridors(a.c, ha, b.c, hb)
		var back []api.Cross
		for _, x := range curve.Corridors(b.c, hb, a.c, ha) {
			back = append(back, api.Cross{FromA: x.FromB, ToA: x.ToB, FromB: x.FromA, ToB: x.ToA})
		}
		slices.SortStableFunc(back, func(x, y api.Cross) int { return cmp.Compare(a.number(x.FromA), a.number(y.FromA)) })
		if !slices.Equal(l, back) {
			t.Fatal(i, l, back)
		}
		wide := curve.Corridors(a.c, d.roll(ha, api.MaxHalf), b.c, d.roll(hb, api.MaxHalf))
		for _, x := range l {
			if !slices.ContainsFunc(wide, func(y api.Cross) bool { return contains(a, b, y, x) }) {
				t.Error(i, x, wide)
			}
		}
	}
}

// contains reports whether y is of the same pair of pieces as x, and contains
// it. (The From of a cross is always less than the end of its piece.)
func contains(a, b sample, y, x api.Cross) bool {
	return a.number(y.FromA) == a.number(x.FromA) && b.number(y.FromB) == b.number(x.FromB) &&
		y.FromA <= x.FromA && y.ToA >= x.ToA && y.FromB <= x.FromB && y.ToB >= x.ToB
}

// number returns the piece in which an offset lies.
func (s sample) number(offset int64) int {
	n := 0
	for i, start := range s.starts {
		if start <= offset {
			n = i
		}
	}
	return n
}

// P1.12
func TestFeetAreInCross(t *testing.T) {
	d := &dice{78}
	found := 0
	for i := range 300 {
		a := d.sample(1+i%3, d.pick(1500, 6000, api.MaxPiece), 5000)
		b := a.partner(d, 1+i%3, d.pick(1500, 6000, api.MaxPiece))
		ha, hb := d.roll(0, api.MaxHalf), d.roll(0, api.MaxHalf)
		l := curve.Corridors(a.c, ha, b.c, hb)
		for n := range a.ways {
			for m := range b.ways {
				for range 20 {
					p := a.around(d)
					if d.pick(0, 1) == 0 {
						p = b.around(d)
					}
					if !curve.Holds(a.piece(n), ha, p) || !curve.Holds(b.piece(m), hb, p) {
						continue
					}
					found++
					s := a.starts[n] + curve.Near(a.piece(n), p, ha)[0]
					u := b.starts[m] + curve.Near(b.piece(m), p, hb)[0]
					if !slices.ContainsFunc(l, func(x api.Cross) bool {
						return contains(a, b, x, x) && a.number(x.FromA) == n && b.number(x.FromB) == m && x.FromA <= s && s <= x.ToA && x.FromB <= u && u <= x.ToB
					}) {
						t.Error(i, p, s, u, l)
					}
				}
			}
		}
	}
	if found < 300 {
		t.Error("too few spots are in two corridors to show anything:", found)
	}
}

// P1.13
func TestMovedCurves(t *testing.T) {
	d := &dice{79}
	for i, x := range samples(80) {
		by := at(d.roll(-100000, 100000), d.roll(-100000, 100000))
		y := x.partner(d, 2, 6000)
		to, other := moved(x.c, by), moved(y.c, by)
		if curve.Check(x.c) != api.OK || curve.Check(to) != api.OK || curve.Check(y.c) != api.OK || curve.Check(other) != api.OK {
			continue
		}
		if curve.Length(to) != curve.Length(x.c) || !slices.Equal(curve.Pieces(to), curve.Pieces(x.c)) {
			t.Error(i, by, curve.Length(to))
		}
		if l, m := curve.Corridors(x.c, 1500, y.c, 900), curve.Corridors(to, 1500, other, 900); !slices.Equal(l, m) {
			t.Error(i, by, l, m)
		}
		for _, s := range x.offsets(d) {
			n, within := curve.Piece(x.c, s)
			if m, other := curve.Piece(to, s); m != n || other != within {
				t.Error(i, by, s, m, other)
			}
			p, q := curve.At(x.c, s), curve.At(to, s)
			if at(p.X+by.X, p.Y+by.Y) != q {
				t.Error(i, by, s, p, q)
			}
			if !slices.Equal(curve.Near(x.c, p, 3000), curve.Near(to, q, 3000)) || curve.Holds(x.c, 1, p) != curve.Holds(to, 1, q) {
				t.Error(i, by, p, q)
			}
		}
	}
}

// P1.14
func TestJoinedPlaces(t *testing.T) {
	d := &dice{81}
	found := 0
	for i := range 300 {
		x := d.sample(2+i%14, d.pick(6000, api.MaxPiece), 5000)
		k := int(d.roll(1, int64(len(x.ways))-1))
		a, b := api.Curve{Pts: x.c.Pts[:k+1]}, api.Curve{Pts: slices.Clone(x.c.Pts[k:])}
		c, e := curve.Join(a, b)
		if e != api.OK || !same(c, x.c) {
			t.Error(i, c, e)
			continue
		}
		found++
		length := curve.Length(a)
		if curve.Length(c) != length+curve.Length(b) {
			t.Error(i, curve.Length(c))
		}
		for _, s := range x.offsets(d) {
			p := curve.At(c, s)
			if s <= length && p != curve.At(a, s) || s >= length && p != curve.At(b, s-length) {
				t.Error(i, s, p)
			}
		}
	}
	if found < 200 {
		t.Error("too few curves could be joined to show anything:", found)
	}
}
