package cloud_test

import (
	"slices"
	"testing"

	"kerbstone/api"
	"kerbstone/cloud"
	"kerbstone/curve"
)

// P2.8
func TestEachPointIsInOne(t *testing.T) {
	d := &dice{71}
	for i, l := range samples(72) {
		for _, k := range d.lengths(l, far) {
			size := max(k, 1)
			buckets, e := cloud.Index(l, size)
			in := make([]int, len(l))
			for _, b := range buckets {
				for _, n := range b.At {
					in[n]++
					x, y := b.Cell.X*size, b.Cell.Y*size
					if l[n].X < x || l[n].X >= x+size || l[n].Y < y || l[n].Y >= y+size {
						t.Error(i, size, l[n], b.Cell)
					}
				}
				if len(b.At) == 0 || !slices.IsSorted(b.At) {
					t.Error(i, size, b)
				}
			}
			if e != api.OK || slices.ContainsFunc(in, func(n int) bool { return n != 1 }) {
				t.Error(i, size, e, in)
			}
			segments, e := cloud.Segments(l, k)
			in = make([]int, len(l))
			for _, s := range segments {
				for _, n := range s {
					in[n]++
				}
			}
			if e != api.OK || slices.ContainsFunc(in, func(n int) bool { return n != 1 }) {
				t.Error(i, k, e, in)
			}
		}
	}
}

// segmentOf returns, for each point, the number of its segment.
func segmentOf(t *testing.T, l []api.Point, gap int64) []int {
	t.Helper()
	segments, e := cloud.Segments(l, gap)
	if e != api.OK {
		t.Error(gap, e)
	}
	numbers := make([]int, len(l))
	for i, s := range segments {
		for _, n := range s {
			numbers[n] = i
		}
	}
	return numbers
}

// P2.9
func TestSegmentsAreApart(t *testing.T) {
	d := &dice{73}
	for i, l := range samples(74) {
		gaps := d.lengths(l, 2*far)
		slices.Sort(gaps)
		var before []int
		for _, gap := range gaps {
			now := segmentOf(t, l, gap)
			for n, p := range l {
				for m, q := range l {
					if now[n] != now[m] && curve.Dist2(place(p), place(q)) <= gap*gap {
						t.Error(i, gap, p, q, "are linked, but in different segments")
					}
					if before != nil && before[n] == before[m] && now[n] != now[m] {
						t.Error(i, gap, p, q, "are divided by a greater gap")
					}
				}
			}
			before = now
		}
	}
}

// P2.10
func TestNearIsNear(t *testing.T) {
	d := &dice{75}
	for i, l := range samples(76) {
		s := spread(l)
		p := at(d.roll(-s, s), d.roll(-s, s))
		for _, reach := range d.lengths(l, 2*far) {
			within := cloud.Within(l, api.Area{X0: p.X - reach, Y0: p.Y - reach, X1: p.X + reach, Y1: p.Y + reach})
			for _, n := range cloud.Near(l, p, reach) {
				if !slices.Contains(within, n) {
					t.Error(i, p, reach, n)
				}
			}
		}
		for _, k := range []int{1, 2, 5, 50} {
			nearest := cloud.Nearest(l, p, k)
			var last int64
			taken := make([]bool, len(l))
			for _, n := range nearest {
				if square(p, place(l[n])) < last || taken[n] {
					t.Error(i, p, k, nearest)
				}
				last = square(p, place(l[n]))
				taken[n] = true
			}
			for n, q := range l {
				if !taken[n] && (square(p, place(q)) < last || len(nearest) < k) {
					t.Error(i, p, k, nearest, "lacks", n)
				}
			}
		}
	}
}

// P2.11
func TestReduceTwice(t *testing.T) {
	d := &dice{77}
	for i, l := range samples(78) {
		for _, k := range d.lengths(l, far) {
			size := max(k, 1)
			r, e := cloud.Reduce(l, size)
			again, f := cloud.Reduce(r, size)
			if e != api.OK || f != api.OK || len(r) > len(l) || !slices.Equal(r, again) {
				t.Error(i, size, e, f, r, again)
			}
			bound := cloud.Bound(size)
			for _, p := range l {
				if !slices.ContainsFunc(r, func(q api.Point) bool { return square(place(p), place(q)) <= bound*bound && q.V >= p.V }) {
					t.Error(i, size, p, r)
				}
			}
		}
	}
	// The bound is reached, but for what it is rounded up.
	for _, size := range []int64{1, 2, 3, 1000, far} {
		r, e := cloud.Reduce(of(0, 0, 0, size-1, size-1, 0), size)
		bound := cloud.Bound(size)
		if e != api.OK || len(r) != 1 || bound > 0 && square(at(0, 0), at(size-1, size-1)) <= (bound-1)*(bound-1) {
			t.Error(size, r, e, bound)
		}
	}
}

// P2.12
func TestHullContainsAll(t *testing.T) {
	d := &dice{79}
	for i, l := range samples(80) {
		h := cloud.Hull(l)
		var cornersAsPoints []api.Point
		for _, p := range h {
			if !slices.ContainsFunc(l, func(q api.Point) bool { return place(q) == p }) {
				t.Error(i, p, "is a corner, but no point")
			}
			cornersAsPoints = append(cornersAsPoints, api.Point{X: p.X, Y: p.Y})
		}
		for _, p := range l {
			if !cloud.Inside(h, place(p)) {
				t.Error(i, p, "is not inside", h)
			}
		}
		for n, p := range h {
			if q, r := h[(n+1)%len(h)], h[(n+2)%len(h)]; len(h) > 2 && curve.Side(p, q, r) != 1 {
				t.Error(i, p, q, r, "do not turn against the clock")
			}
			if p != h[0] && (p.X < h[0].X || p.X == h[0].X && p.Y < h[0].Y) {
				t.Error(i, p, "should be first", h)
			}
		}
		if again := cloud.Hull(cornersAsPoints); !slices.Equal(h, again) {
			t.Error(i, h, again)
		}
		for range 3 {
			if other := cloud.Hull(d.shuffled(l)); !slices.Equal(h, other) {
				t.Error(i, h, other)
			}
		}
		if cloud.Area2(h) < 0 || len(h) > 2 && cloud.Area2(h) == 0 {
			t.Error(i, h, cloud.Area2(h))
		}
	}
}

// P2.13
func TestShiftThereAndBack(t *testing.T) {
	d := &dice{81}
	for i, l := range samples(82) {
		room := far - spread(l)
		by := at(d.roll(-room, room), d.pick(-room, 0, room))
		to, e := cloud.Shift(l, by)
		back, f := cloud.Shift(to, at(-by.X, -by.Y))
		if e != api.OK || f != api.OK || !slices.Equal(l, back) {
			t.Error(i, by, e, f, back)
		}
		var moved []api.Spot
		for _, p := range cloud.Hull(l) {
			moved = append(moved, at(p.X+by.X, p.Y+by.Y))
		}
		if h := cloud.Hull(to); !slices.Equal(h, moved) || cloud.Area2(h) != cloud.Area2(cloud.Hull(l)) {
			t.Error(i, by, h, moved)
		}
		for _, gap := range d.lengths(l, 2*far) {
			if !slices.Equal(segmentOf(t, l, gap), segmentOf(t, to, gap)) {
				t.Error(i, by, gap)
			}
		}
		if len(l) == 0 {
			continue
		}
		a, _ := cloud.Around(l)
		if b, ok := cloud.Around(to); !ok || b != (api.Area{X0: a.X0 + by.X, Y0: a.Y0 + by.Y, X1: a.X1 + by.X, Y1: a.Y1 + by.Y}) {
			t.Error(i, by, a, b)
		}
	}
}

// P2.14
func TestShiftedIsRegistered(t *testing.T) {
	d := &dice{83}
	for i, l := range samples(84) {
		if len(l) > shape || spread(l) > far-window {
			continue
		}
		wide := d.pick(0, 1, 100, window)
		by := at(d.roll(-wide, wide), d.pick(-wide, 0, wide))
		to, e := cloud.Shift(l, by)
		if e != api.OK {
			t.Fatal(i, e)
		}
		for _, slack := range []int64{0, 1, 50} {
			back, n, e := cloud.Register(l, to, wide, slack)
			if e != api.OK || n != len(l) || cloud.Matches(l, to, back, slack) != n {
				t.Error(i, by, slack, back, n, e)
			}
			if slack == 0 && len(l) > 0 && back != at(-by.X, -by.Y) {
				t.Error(i, by, back)
			}
		}
	}
}

// P2.15
func TestNoCandidateIsBetter(t *testing.T) {
	d := &dice{85}
	for i := range 150 {
		s := d.pick(3, 40, 1500)
		a, b := d.cloud(d.roll(0, 15), s), d.cloud(d.roll(0, 15), s)
		wide, slack := d.roll(0, min(window, 2*s)), d.roll(0, s/3)
		best, n, e := cloud.Register(a, b, wide, slack)
		if e != api.OK || cloud.Matches(a, b, best, slack) != n {
			t.Error(i, best, n, e)
		}
		candidates := []api.Spot{at(0, 0)}
		for _, p := range a {
			for _, q := range b {
				if by := at(p.X-q.X, p.Y-q.Y); max(by.X, -by.X, by.Y, -by.Y) <= wide {
					candidates = append(candidates, by)
				}
			}
		}
		for _, by := range candidates {
			if m := cloud.Matches(a, b, by, slack); m > n {
				t.Error(i, by, m, "is better than", best, n)
			}
		}
		if !slices.Contains(candidates, best) {
			t.Error(i, best, "is no candidate")
		}
	}
}
