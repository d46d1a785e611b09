package curve_test

import (
	"math/big"

	"kerbstone/api"
)

// of makes a curve of pairs of coordinates.
func of(l ...int64) api.Curve {
	var c api.Curve
	for i := 0; i+1 < len(l); i += 2 {
		c.Pts = append(c.Pts, at(l[i], l[i+1]))
	}
	return c
}

// at makes a spot.
func at(x, y int64) api.Spot { return api.Spot{X: x, Y: y} }

// row is a straight curve with n points.
func row(n int64) api.Curve {
	var c api.Curve
	for i := range n {
		c.Pts = append(c.Pts, at(1000*i, 0))
	}
	return c
}

// The curves of the chapter's examples.
func exampleE() api.Curve { return of(0, 0, 3000, 4000, 8000, 4000) }
func exampleA() api.Curve { return of(0, 0, 10000, 0) }
func exampleB() api.Curve { return of(5000, -5000, 5000, 5000) }
func exampleD() api.Curve { return of(0, 1500, 10000, 1500) }

// invalid are curves that are not valid, one for each reason.
func invalid() []api.Curve {
	return []api.Curve{
		{},
		of(5, 5),
		row(17),
		of(0, 0, api.MaxSpot+1, 0),
		of(0, 0, 1000, 0, 0, -api.MaxSpot-1),
		of(0, 0, 1000, 1000),
		of(0, 0, 2000, 0, 3000, 1000),
		of(0, 0, 999, 0),
		of(0, 0, 0, 0),
		of(0, 0, api.MaxPiece+1, 0),
		of(0, 0, 3000, 0, 3000, 2000),
		of(0, 0, 3000, 0, 1000, 0),
	}
}

// dice are numbers that look random, and are the same in each run.
type dice struct{ state uint64 }

// roll returns a number from lo to hi.
func (d *dice) roll(lo, hi int64) int64 {
	d.state ^= d.state << 13
	d.state ^= d.state >> 7
	d.state ^= d.state << 17
	return lo + int64((d.state>>8)%uint64(hi-lo+1))
}

// pick returns one of the numbers.
func (d *dice) pick(l ...int64) int64 { return l[d.roll(0, int64(len(l))-1)] }

// sample is a valid curve, with the lengths of its pieces, and their starts.
type sample struct {
	c       api.Curve
	ways    []api.Spot
	lengths []int64
	starts  []int64
	length  int64
}

// add adds a piece.
func (s *sample) add(way api.Spot, length int64) {
	last := s.c.Pts[len(s.c.Pts)-1]
	s.c.Pts = append(s.c.Pts, at(last.X+way.X, last.Y+way.Y))
	s.ways = append(s.ways, way)
	s.lengths = append(s.lengths, length)
	s.starts = append(s.starts, s.length)
	s.length += length
}

// sampleOf measures a curve that is known to be valid.
func sampleOf(c api.Curve) sample {
	s := sample{c: api.Curve{Pts: c.Pts[:1:1]}}
	for i := range len(c.Pts) - 1 {
		way := at(c.Pts[i+1].X-c.Pts[i].X, c.Pts[i+1].Y-c.Pts[i].Y)
		s.add(way, new(big.Int).Sqrt(big.NewInt(way.X*way.X+way.Y*way.Y)).Int64())
	}
	return s
}

// way returns a vector of a whole length, and this length: from api.MinPiece to
// most (or the multiple of a triple that is next to these).
func (d *dice) way(most int64) (api.Spot, int64) {
	triples := [...][3]int64{{1, 0, 1}, {3, 4, 5}, {5, 12, 13}, {8, 15, 17}, {20, 21, 29}, {12, 35, 37}, {119, 120, 169}, {63, 1984, 1985}}
	t := triples[d.roll(0, int64(len(triples))-1)]
	if t[2] > most {
		t = triples[1]
	}
	k := d.roll((api.MinPiece+t[2]-1)/t[2], most/t[2])
	x, y := k*t[0]*d.pick(-1, 1), k*t[1]*d.pick(-1, 1)
	if d.pick(0, 1) == 0 {
		x, y = y, x
	}
	return at(x, y), k * t[2]
}

// sample returns a valid curve with so many pieces, each of at most most,
// that begins not farther than spread from the origin.
func (d *dice) sample(count int, most, spread int64) sample {
	s := sample{c: api.Curve{Pts: []api.Spot{at(d.roll(-spread, spread), d.roll(-spread, spread))}}}
	for len(s.ways) < count {
		way, length := d.way(most)
		if n := len(s.ways); n > 0 && way.X*s.ways[n-1].X+way.Y*s.ways[n-1].Y <= 0 {
			continue
		}
		s.add(way, length)
	}
	return s
}

// samples returns valid curves, from small to great ones.
func samples(seed uint64) []sample {
	d := &dice{seed}
	list := []sample{sampleOf(exampleE()), sampleOf(exampleA()), sampleOf(exampleB()), sampleOf(row(16)), sampleOf(of(-api.MaxSpot, 0, -api.MaxSpot+api.MaxPiece, 0))}
	for i := range 60 {
		list = append(list, d.sample(1+i%15, 6000, 5000), d.sample(1+i%15, api.MaxPiece, 100000))
	}
	return list
}

// offsets returns offsets of the curve: its ends, all starts with their
// neighbours, and others.
func (s sample) offsets(d *dice) []int64 {
	l := []int64{0, 1, 2, s.length - 1, s.length}
	for i, start := range s.starts {
		if i > 0 {
			l = append(l, start-1)
		}
		l = append(l, start, start+1)
	}
	for range 20 {
		l = append(l, d.roll(0, s.length))
	}
	return l
}

// place returns the place of an offset, computed with big numbers.
func (s sample) place(offset int64) api.Spot {
	i := len(s.starts) - 1
	for s.starts[i] > offset {
		i--
	}
	p, v, t := s.c.Pts[i], s.ways[i], offset-s.starts[i]
	part := func(from, along int64) int64 { // Div rounds down for a divisor above 0
		whole := new(big.Int).Mul(big.NewInt(along), big.NewInt(t))
		return from + whole.Div(whole, big.NewInt(s.lengths[i])).Int64()
	}
	return at(part(p.X, v.X), part(p.Y, v.Y))
}

// moved returns the curve, moved by a vector.
func moved(c api.Curve, by api.Spot) api.Curve {
	var to api.Curve
	for _, p := range c.Pts {
		to.Pts = append(to.Pts, at(p.X+by.X, p.Y+by.Y))
	}
	return to
}

// piece returns the curve that is the piece i of the sample alone.
func (s sample) piece(i int) api.Curve {
	return of(s.c.Pts[i].X, s.c.Pts[i].Y, s.c.Pts[i+1].X, s.c.Pts[i+1].Y)
}
