package cloud_test

import (
	"math"
	"slices"
	"testing"

	"kerbstone/api"
	"kerbstone/cloud"
)

// wrongShifts are shifts that bring no valid spot to a valid one.
func wrongShifts() []api.Spot {
	return spots(2*far+1, 0, -2*far-1, 0, 0, 2*far+1, 0, -2*far-1, math.MaxInt64, 0, math.MinInt64, 0, 0, math.MaxInt64, 0, math.MinInt64)
}

// P2.6
func TestShift(t *testing.T) {
	for i, x := range []struct {
		l    []api.Point
		by   api.Spot
		want []api.Point
	}{
		{example(), at(1, -1), of(1, -1, 0, 301, 399, 5, 2001, -1, 0, 2001, 99, 7, 301, 399, 9)}, {example(), at(0, 0), example()}, {nil, at(5, 5), nil}, {nil, at(2*far, -2*far), nil},
		{of(-far, far, -fast), at(2*far, -2*far), of(far, -far, -fast)}, {of(far, -far, fast), at(-2*far, 2*far), of(-far, far, fast)}, {of(far-1, 1-far, 1), at(1, -1), of(far, -far, 1)},
	} {
		if l, e := cloud.Shift(x.l, x.by); e != api.OK || !slices.Equal(l, x.want) {
			t.Error(i, l, e)
		}
	}
	for i, by := range wrongShifts() {
		for _, l := range [][]api.Point{nil, example(), of(-far, -far, 0), of(far, far, 0)} {
			if s, e := cloud.Shift(l, by); e != api.ErrRange || len(s) > 0 {
				t.Error(i, l, s, e)
			}
		}
	}
	for i, by := range spots(far, 0, -far-1, 0, 0, far-399, 0, -far-1, far-1999, 0) {
		if s, e := cloud.Shift(example(), by); e != api.ErrRange || len(s) > 0 {
			t.Error(i, s, e)
		}
	}
	if s, e := cloud.Shift(example(), at(far-2000, far-400)); e != api.OK || s[2] != (api.Point{X: far, Y: far - 400}) {
		t.Error(s, e)
	}
}

// P2.7
func TestMatchesExamples(t *testing.T) {
	c := example()
	for i, x := range []struct {
		a, b  []api.Point
		by    api.Spot
		slack int64
		want  int
	}{
		{c, c, at(0, 0), 0, 5}, {c, c, at(1, 0), 0, 0}, {c, c, at(1, 0), 1, 5}, {c, c, at(0, -1), 0, 0}, {c, c, at(0, -1), 1, 5}, {c, c, at(0, 100), 0, 1}, {c, c, at(0, -100), 0, 1}, {c, c, at(300, 400), 0, 1}, {c, c, at(-300, -400), 0, 2}, {c, c, at(1, 400), 299, 1},
		{c, nil, at(0, 0), 9, 0}, {nil, c, at(0, 0), 9, 0}, {nil, nil, at(0, 0), 0, 0},
		// Points of b are counted: each one once, each one of those at one spot, and whatever the speeds.
		{of(0, 0, 1), of(0, 0, 5, 0, 0, 6, 3, 0, 7), at(0, 0), 0, 2}, {of(0, 0, 5, 0, 0, 6, 3, 0, 7), of(0, 0, 1), at(0, 0), 9, 1},
		// Each coordinate by itself, on both sides.
		{of(0, 0, 0), of(10, 10, 0, -10, -10, 0, 10, -10, 0, 11, 0, 0, -11, 0, 0, 0, 11, 0, 0, -11, 0), at(0, 0), 10, 3}, {of(0, 0, 0, 100, 100, 0), of(0, 100, 0), at(0, 0), 10, 0},
		{c, c, at(0, 0), window, 5}, {c, c, at(0, 0), window + 1, 0}, {c, c, at(0, 0), -1, 0}, {c, c, at(0, 0), math.MaxInt64, 0}, {c, c, at(0, 0), math.MinInt64, 0}, {of(0, 0, 0), of(window, 0, 0), at(0, 0), window, 1}, {of(0, 0, 0), of(window+1, 0, 0), at(0, 0), window, 0},
		// A shift may bring a point to a place that is not a valid spot.
		{of(far, 0, 0), of(0, 0, 0), at(far+1, 0), 1, 1}, {of(far, far, 0), of(-far, -far, 0), at(2*far, 2*far), 0, 1}, {of(-far, -far, 0), of(far, far, 0), at(-2*far, -2*far), 0, 1}, {of(far, 0, 0), of(far, 0, 0), at(2*far, 0), window, 0},
	} {
		if n := cloud.Matches(x.a, x.b, x.by, x.slack); n != x.want {
			t.Error(i, n)
		}
	}
	for i, by := range wrongShifts() {
		for _, p := range spots(far, far, -far, -far) {
			l := of(p.X, p.Y, 0)
			if n := cloud.Matches(l, l, by, window) + cloud.Matches(l, of(-p.X, -p.Y, 0), by, window); n != 0 {
				t.Error(i, p, n)
			}
		}
	}
}

// count returns the number of matches, point by point.
func count(a, b []api.Point, by api.Spot, slack int64) int {
	n := 0
	for _, q := range b {
		if slices.ContainsFunc(a, func(p api.Point) bool {
			x, y := q.X+by.X-p.X, q.Y+by.Y-p.Y
			return max(x, -x, y, -y) <= slack
		}) {
			n++
		}
	}
	return n
}

// best returns what Register promises, from the list of all candidates.
func best(a, b []api.Point, wide, slack int64) (api.Spot, int) {
	type tried struct {
		by      api.Spot
		matches int
	}
	list := []tried{{at(0, 0), count(a, b, at(0, 0), slack)}}
	for _, p := range a {
		for _, q := range b {
			if by := at(p.X-q.X, p.Y-q.Y); max(by.X, -by.X, by.Y, -by.Y) <= wide {
				list = append(list, tried{by, count(a, b, by, slack)})
			}
		}
	}
	first := slices.MinFunc(list, func(v, w tried) int {
		x := []int64{-int64(v.matches), max(v.by.X, -v.by.X) + max(v.by.Y, -v.by.Y), v.by.X, v.by.Y}
		y := []int64{-int64(w.matches), max(w.by.X, -w.by.X) + max(w.by.Y, -w.by.Y), w.by.X, w.by.Y}
		return slices.Compare(x, y)
	})
	return first.by, first.matches
}

// P2.7
func TestMatchesSamples(t *testing.T) {
	d := &dice{61}
	for i := range 300 {
		s := d.pick(3, 50, 3000, far)
		a, b := d.cloud(d.roll(0, 20), s), d.cloud(d.roll(0, 20), s)
		by := at(d.roll(-2*s, 2*s), d.roll(-s, s))
		slack := d.roll(0, min(window, s))
		if n := cloud.Matches(a, b, by, slack); n != count(a, b, by, slack) {
			t.Error(i, n)
		}
	}
	a, b := d.cloud(most, 30000), d.cloud(most, 30000)
	if n := cloud.Matches(a, b, at(7, -7), 400); n != count(a, b, at(7, -7), 400) || n == 0 || n == most {
		t.Error(n)
	}
}

// P2.7
func TestRegisterExamples(t *testing.T) {
	c := example()
	shifted := of(1, -1, 0, 301, 399, 0, 2001, -1, 0, 2001, 99, 0, 301, 399, 0)
	o := of(0, 0, 0)
	for i, x := range []struct {
		a, b        []api.Point
		wide, slack int64
		by          api.Spot
		matches     int
	}{
		{c, shifted, 10, 0, at(-1, 1), 5}, {shifted, c, 10, 0, at(1, -1), 5}, {c, shifted, 0, 0, at(0, 0), 0}, {c, shifted, 10, 1, at(0, 0), 5}, {c, c, window, window, at(0, 0), 5},
		{nil, nil, 5, 5, at(0, 0), 0}, {c, nil, 5, 5, at(0, 0), 0}, {nil, c, 5, 5, at(0, 0), 0}, {o, o, 0, 0, at(0, 0), 1},
		// The window includes its borders, in each coordinate and in both directions.
		{o, of(5, 0, 0), 5, 0, at(-5, 0), 1}, {o, of(6, 0, 0), 5, 0, at(0, 0), 0}, {o, of(-5, 0, 0), 5, 0, at(5, 0), 1}, {o, of(-6, 0, 0), 5, 0, at(0, 0), 0}, {o, of(0, 5, 0), 5, 0, at(0, -5), 1}, {o, of(0, 6, 0), 5, 0, at(0, 0), 0}, {o, of(0, -5, 0), 5, 0, at(0, 5), 1}, {o, of(0, -6, 0), 5, 0, at(0, 0), 0}, {o, of(5, -5, 0), 5, 0, at(-5, 5), 1},
		{o, of(window, window, 0), window, 0, at(-window, -window), 1}, {o, of(window+1, 0, 0), window, 0, at(0, 0), 0}, {o, of(window, 0, 0), 0, window, at(0, 0), 1},
		// Most matches go first, whatever the shift is; then the least sum, X, and Y.
		{of(0, 0, 0, 100, 0, 0), of(9, 0, 0, 109, 0, 0, 1, 0, 0), 50, 0, at(-9, 0), 2},
		{o, of(3, 0, 0, 0, -2, 0), 50, 0, at(0, 2), 1}, {o, of(3, 3, 0, -5, 0, 0), 50, 0, at(5, 0), 1}, {o, of(2, 2, 0, 3, 0, 0), 50, 0, at(-3, 0), 1}, {o, of(-2, 0, 0, 2, 0, 0, 0, 2, 0, 0, -2, 0), 50, 0, at(-2, 0), 1},
		{o, of(-1, 1, 0, -1, -1, 0, 1, -1, 0, 1, 1, 0), 50, 0, at(-1, -1), 1}, {o, of(-1, -1, 0, -1, 1, 0), 50, 0, at(1, -1), 1}, {o, of(-3, 0, 0, -1, -2, 0, -1, 2, 0), 50, 0, at(1, -2), 1},
		// The slack counts, but only differences of points and 0/0 are tried.
		{of(0, 0, 0, 100, 0, 0), of(10, 0, 0, 112, 0, 0), 50, 1, at(-10, 0), 1}, {of(0, 0, 0, 100, 0, 0), of(10, 0, 0, 112, 0, 0), 50, 2, at(-10, 0), 2}, {o, of(4, 0, 0, 8, 0, 0), 50, 4, at(-4, 0), 2}, {o, of(4, 0, 0, 8, 0, 0), 50, 3, at(-4, 0), 1},
		{of(far, far, 0), of(-far, -far, 0), window, 0, at(0, 0), 0},
	} {
		if by, n, e := cloud.Register(x.a, x.b, x.wide, x.slack); e != api.OK || by != x.by || n != x.matches {
			t.Error(i, by, n, e)
		}
	}
}

// P2.7
func TestRegisterErrors(t *testing.T) {
	c, large, wrong := example(), row(shape+1), of(far+1, 0, 0)
	for i, x := range []struct {
		a, b        []api.Point
		wide, slack int64
		want        api.Errno
	}{
		{large, c, 5, 5, api.ErrFull}, {c, large, 5, 5, api.ErrFull}, {large, large, 5, 5, api.ErrFull}, {large, nil, 5, 5, api.ErrFull}, {nil, large, 5, 5, api.ErrFull}, {row(most), c, 5, 5, api.ErrFull},
		{c, c, -1, 5, api.ErrRange}, {c, c, window + 1, 5, api.ErrRange}, {c, c, 5, -1, api.ErrRange}, {c, c, 5, window + 1, api.ErrRange}, {nil, nil, -1, 0, api.ErrRange}, {nil, nil, 0, -1, api.ErrRange},
		{c, c, math.MinInt64, 5, api.ErrRange}, {c, c, math.MaxInt64, 5, api.ErrRange}, {c, c, 5, math.MinInt64, api.ErrRange}, {c, c, 5, math.MaxInt64, api.ErrRange},
		// Check for a, then for b; then the numbers of points; then the others.
		{wrong, row(most + 1), 5, 5, api.ErrRange}, {row(most + 1), wrong, 5, 5, api.ErrFull}, {large, wrong, 5, 5, api.ErrRange}, {wrong, large, 5, 5, api.ErrRange}, {large, c, -1, 5, api.ErrFull}, {c, large, 5, window + 1, api.ErrFull},
	} {
		if by, n, e := cloud.Register(x.a, x.b, x.wide, x.slack); e != x.want || by != at(0, 0) || n != 0 {
			t.Error(i, by, n, e)
		}
	}
	if by, n, e := cloud.Register(row(shape), row(shape), window, 0); e != api.OK || by != at(0, 0) || n != shape {
		t.Error(by, n, e)
	}
}

// P2.7
func TestRegisterSamples(t *testing.T) {
	d := &dice{62}
	for i := range 400 {
		s := d.pick(2, 5, 50, 2000, far)
		a, b := d.cloud(d.roll(0, 12), s), d.cloud(d.roll(0, 12), s)
		wide, slack := d.roll(0, min(window, 2*s)), d.roll(0, min(window, s/4+1))
		by, n := best(a, b, wide, slack)
		if v, m, e := cloud.Register(a, b, wide, slack); e != api.OK || v != by || m != n {
			t.Error(i, v, m, e, by, n)
		}
	}
	for i := range 3 {
		a, b := d.cloud(shape, 900), d.cloud(shape, 900)
		by, n := best(a, b, window, 30)
		if v, m, e := cloud.Register(a, b, window, 30); e != api.OK || v != by || m != n {
			t.Error(i, v, m, e, by, n)
		}
	}
}
