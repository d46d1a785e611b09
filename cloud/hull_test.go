package cloud_test

import (
	"math/big"
	"slices"
	"testing"

	"kerbstone/api"
	"kerbstone/cloud"
	"kerbstone/curve"
)

// wrapped returns the hull: from each corner it goes to the spot that has no
// other one to its right, and of several ones on a line to the farthest one.
func wrapped(l []api.Point) []api.Spot {
	if len(l) == 0 {
		return nil
	}
	first := place(l[0])
	for _, p := range l {
		if p.X < first.X || p.X == first.X && p.Y < first.Y {
			first = place(p)
		}
	}
	h := []api.Spot{first}
	for {
		here := h[len(h)-1]
		to := here
		for _, p := range l {
			q := place(p)
			side := curve.Side(here, to, q)
			if to == here || side < 0 || side == 0 && square(here, q) > square(here, to) {
				to = q
			}
		}
		if to == first {
			return h
		}
		h = append(h, to)
	}
}

// P2.5
func TestHullExamples(t *testing.T) {
	for i, x := range []struct {
		l    []api.Point
		want []api.Spot
	}{
		{nil, nil}, {of(5, -5, 1), spots(5, -5)}, {of(5, -5, 1, 5, -5, 2, 5, -5, 0), spots(5, -5)},
		{example(), spots(0, 0, 2000, 0, 2000, 100, 300, 400)},
		{of(9, 9, 0, 1, 1, 0, 5, 5, 0, 1, 1, 0), spots(1, 1, 9, 9)}, {of(4, 9, 0, 4, 1, 0, 4, 5, 0), spots(4, 1, 4, 9)}, {of(9, 1, 0, 1, 9, 0, 5, 5, 0), spots(1, 9, 9, 1)}, {of(3, 1, 0, 2, 1, 0), spots(2, 1, 3, 1)},
		{of(10, 10, 0, 0, 10, 0, 10, 0, 0, 0, 0, 0), spots(0, 0, 10, 0, 10, 10, 0, 10)},
		{of(0, 0, 0, 5, 0, 0, 10, 0, 0, 10, 5, 0, 10, 10, 0, 5, 10, 0, 0, 10, 0, 0, 5, 0, 5, 5, 0), spots(0, 0, 10, 0, 10, 10, 0, 10)},
		{of(0, 5, 0, 5, 0, 0, 10, 5, 0, 5, 10, 0, 2, 3, 0), spots(0, 5, 5, 0, 10, 5, 5, 10)},
		{of(0, 3, 0, 0, 7, 0, 5, 5, 0), spots(0, 3, 5, 5, 0, 7)}, {of(0, 0, 0, 10, 0, 0, 5, 1, 0), spots(0, 0, 10, 0, 5, 1)}, {of(0, 0, 0, 10, 0, 0, 5, -1, 0), spots(0, 0, 5, -1, 10, 0)},
		{of(far, far, 0, -far, -far, 0, far, -far, 0, -far, far, 0, far-1, far-1, 0), spots(-far, -far, far, -far, far, far, -far, far)},
		{of(-far, -far, 0, far, far-1, 0, 0, 0, 0), spots(-far, -far, far, far-1, 0, 0)},
	} {
		if h := cloud.Hull(x.l); !slices.Equal(h, x.want) {
			t.Error(i, h)
		}
	}
}

// P2.5
func TestHullSamples(t *testing.T) {
	d := &dice{51}
	list := samples(52)
	for range 300 {
		list = append(list, d.cloud(d.roll(1, 9), d.pick(1, 2, 4)))
	}
	for i, l := range append(list, d.cloud(most, far), d.cloud(most, 10), row(most)) {
		if h := cloud.Hull(l); !slices.Equal(h, wrapped(l)) {
			t.Error(i, l, h)
		}
	}
}

// P2.5
func TestArea2Examples(t *testing.T) {
	var zigzag []api.Spot
	for i := range int64(most + 1) {
		zigzag = append(zigzag, at(i, i*i%7))
	}
	for i, x := range []struct {
		h    []api.Spot
		want int64
	}{
		{nil, 0}, {spots(5, 5), 0}, {spots(0, 1, 5, 0), 0}, {spots(0, 0, 2, 0, 0, 3), 6}, {spots(0, 0, 0, 3, 2, 0), -6}, {spots(1, 1, 2, 2, 3, 3), 0},
		{cloud.Hull(example()), 970000}, {spots(-far, -far, far, -far, far, far, -far, far), 8 * far * far}, {spots(-far, -far, -far, far, far, far, far, -far), -8 * far * far},
		{spots(3, 4, 5, 4, 3, 7), 6}, {spots(0, 0, 4, 4, 4, 0, 0, 4), 0}, {spots(10, 10, 20, 10, 20, 20, 15, 15), 100},
		{spots(0, 0, far+1, 0, 0, 3), 0}, {spots(0, 0, 2, 0, 0, -far-1), 0},
	} {
		if n := cloud.Area2(x.h); n != x.want {
			t.Error(i, n)
		}
	}
	for i, p := range outside() {
		for k := range 3 {
			if n := cloud.Area2(slices.Insert(spots(0, 0, 3, 0, 0, 3), k, p)); n != 0 {
				t.Error(i, k, n)
			}
		}
	}
	if n, want := cloud.Area2(zigzag[:most]), shoelace(zigzag[:most]); n != want || n == 0 {
		t.Error(n, want)
	}
	if n := cloud.Area2(zigzag); n != 0 {
		t.Error(n)
	}
}

// shoelace returns the sum of the contract, computed with big numbers.
func shoelace(h []api.Spot) int64 {
	sum := new(big.Int)
	for i, p := range h {
		q := h[0]
		if i+1 < len(h) {
			q = h[i+1]
		}
		sum.Add(sum, new(big.Int).Mul(big.NewInt(p.X), big.NewInt(q.Y)))
		sum.Sub(sum, new(big.Int).Mul(big.NewInt(p.Y), big.NewInt(q.X)))
	}
	return sum.Int64()
}

// P2.5: the corners may be any spots.
func TestArea2Samples(t *testing.T) {
	d := &dice{53}
	for i := range 500 {
		var h []api.Spot
		for range d.pick(3, 4, 5, 20, most) {
			h = append(h, at(d.roll(-far, far), d.pick(-far, far, d.roll(-far, far))))
		}
		if n, want := cloud.Area2(h), shoelace(h); n != want {
			t.Error(i, n, want)
		}
	}
	var circles []api.Spot
	for range most / 4 {
		circles = append(circles, spots(-far, -far, far, -far, far, far, -far, far)...)
	}
	if n, want := cloud.Area2(circles), shoelace(circles); n != want || n != most/4*8*far*far {
		t.Error(n, want)
	}
}

// P2.5
func TestInsideExamples(t *testing.T) {
	h := cloud.Hull(example())
	for i, x := range []struct {
		h    []api.Spot
		p    api.Spot
		want bool
	}{
		{h, at(1000, 100), true}, {h, at(1000, 300), false}, {h, at(0, 0), true}, {h, at(1000, 0), true}, {h, at(1000, -1), false}, {h, at(2000, 50), true}, {h, at(2001, 50), false}, {h, at(2001, 0), false}, {h, at(-1, 0), false}, {h, at(150, 200), true}, {h, at(150, 201), false}, {h, at(150, 199), true},
		{nil, at(0, 0), false}, {spots(5, 6), at(5, 6), true}, {spots(5, 6), at(5, 7), false}, {spots(5, 6), at(6, 6), false},
		{spots(0, 0, 10, 20), at(5, 10), true}, {spots(0, 0, 10, 20), at(5, 11), false}, {spots(0, 0, 10, 20), at(10, 20), true}, {spots(0, 0, 10, 20), at(0, 0), true}, {spots(0, 0, 10, 20), at(11, 22), false}, {spots(0, 0, 10, 20), at(-1, -2), false}, {spots(0, 20, 10, 0), at(5, 10), true}, {spots(3, 3, 3, 3), at(3, 3), true}, {spots(3, 3, 3, 3), at(3, 4), false},
		{spots(0, 0, 9, 0, 0, 9), at(4, 5), true}, {spots(0, 0, 9, 0, 0, 9), at(5, 5), false}, {spots(0, 0, 9, 0, 0, 9), at(0, 9), true},
		// The corners may be any spots: with the clock, or on one line.
		{spots(0, 0, 0, 9, 9, 0), at(3, 3), false}, {spots(0, 0, 0, 9, 9, 0), at(0, 0), false}, {spots(1, 1, 1, 1, 1, 1), at(7, -7), true}, {spots(0, 0, 1, 1, 2, 2), at(5, 5), true}, {spots(0, 0, 1, 1, 2, 2), at(5, 6), false},
		{spots(-far, -far, far, -far, far, far, -far, far), at(far, far), true}, {spots(-far, -far, far, -far, far, far), at(far-1, far), false}, {spots(-far, -far, far, -far, far, far), at(far, far-1), true},
	} {
		if in := cloud.Inside(x.h, x.p); in != x.want {
			t.Error(i, in)
		}
	}
	box := spots(-far, -far, far, -far, far, far, -far, far)
	for i, p := range outside() {
		for n := 1; n <= 4; n++ {
			if cloud.Inside(box[:n], p) {
				t.Error(i, n, p, "is inside")
			}
			for k := range n {
				wrong := slices.Clone(box[:n])
				wrong[k] = p
				if cloud.Inside(wrong, at(0, 0)) || cloud.Inside(wrong, p) || cloud.Inside(wrong, box[0]) {
					t.Error(i, n, k, p, "is a corner")
				}
			}
		}
	}
}

func TestInsideCountsCorners(t *testing.T) {
	var many []api.Spot
	for range most + 1 {
		many = append(many, at(3, 3))
	}
	many[1], many[2] = at(9, 3), at(3, 9)
	if !cloud.Inside(many[:most], at(4, 4)) || cloud.Inside(many[:most], at(9, 9)) || cloud.Inside(many, at(4, 4)) || cloud.Inside(many, at(3, 3)) {
		t.Error("a hull has up to MaxPoints corners")
	}
}

// P2.5: p is inside exactly if the hull with p is the hull without p.
func TestInsideSamples(t *testing.T) {
	d := &dice{54}
	for i, l := range samples(55) {
		h := cloud.Hull(l)
		s := min(spread(l)+1, far)
		for range 30 {
			p := at(d.roll(-s, s), d.roll(-s, s))
			with := cloud.Hull(append(slices.Clone(l), api.Point{X: p.X, Y: p.Y}))
			if cloud.Inside(h, p) != slices.Equal(h, with) {
				t.Error(i, h, p)
			}
		}
	}
}
