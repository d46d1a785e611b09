package cloud_test

import (
	"math"
	"slices"
	"testing"

	"kerbstone/api"
	"kerbstone/cloud"
)

// P2.2
func TestWithin(t *testing.T) {
	box := func(x0, y0, x1, y1 int64) api.Area { return api.Area{X0: x0, Y0: y0, X1: x1, Y1: y1} }
	for i, x := range []struct {
		a    api.Area
		want []int
	}{
		{box(0, 0, 300, 400), []int{0, 1, 4}}, {box(1, 0, 300, 400), []int{1, 4}}, {box(0, 1, 300, 400), []int{1, 4}}, {box(0, 0, 299, 400), []int{0}}, {box(0, 0, 300, 399), []int{0}},
		{box(0, 0, 0, 0), []int{0}}, {box(2000, 0, 2000, 100), []int{2, 3}}, {box(300, 400, 300, 400), []int{1, 4}}, {box(301, 0, 1999, 400), nil},
		{box(300, 0, 0, 400), nil}, {box(0, 400, 300, 0), nil}, {box(1, 0, 0, 0), nil}, {box(0, 1, 0, 0), nil}, {api.Area{}, []int{0}},
		{box(math.MinInt64, math.MinInt64, math.MaxInt64, math.MaxInt64), []int{0, 1, 2, 3, 4}}, {box(math.MaxInt64, math.MinInt64, math.MinInt64, math.MaxInt64), nil},
	} {
		if n := cloud.Within(example(), x.a); !slices.Equal(n, x.want) {
			t.Error(i, n)
		}
	}
	if n := cloud.Within(nil, box(-9, -9, 9, 9)); len(n) > 0 {
		t.Error(n)
	}
	d := &dice{31}
	for i, l := range samples(32) {
		s := spread(l)
		a := box(d.roll(-s, s), d.roll(-s, s), d.roll(-s, s), d.roll(-s, s))
		var want []int
		for n, p := range l {
			if min(p.X-a.X0, a.X1-p.X, p.Y-a.Y0, a.Y1-p.Y) >= 0 {
				want = append(want, n)
			}
		}
		if n := cloud.Within(l, a); !slices.Equal(n, want) {
			t.Error(i, a, n)
		}
	}
}

// P2.2
func TestNear(t *testing.T) {
	corner := of(-far, 0, 0, far, 0, 0, far, 1, 0, -far, -far, 0, far, far, 0)
	for i, x := range []struct {
		l     []api.Point
		p     api.Spot
		reach int64
		want  []int
	}{
		{example(), at(0, 0), 500, []int{0, 1, 4}}, {example(), at(0, 0), 499, []int{0}}, {example(), at(0, 0), 0, []int{0}}, {example(), at(1, 0), 0, nil}, {example(), at(1, 0), 1, []int{0}},
		{example(), at(2000, 40), 60, []int{2, 3}}, {example(), at(2000, 40), 59, []int{2}}, {example(), at(0, 0), -1, nil}, {example(), at(0, 0), -500, nil}, {example(), at(0, 0), math.MinInt64, nil},
		{example(), at(0, 0), 2 * far, []int{0, 1, 2, 3, 4}}, {example(), at(0, 0), 2*far + 1, nil}, {example(), at(0, 0), math.MaxInt64, nil},
		{corner, at(-far, 0), 2 * far, []int{0, 1, 3}}, {corner, at(-far, 0), 2*far - 1, []int{0, 3}}, {corner, at(-far, -far), 2 * far, []int{0, 3}}, {nil, at(0, 0), 5, nil},
	} {
		if n := cloud.Near(x.l, x.p, x.reach); !slices.Equal(n, x.want) {
			t.Error(i, n)
		}
	}
	for i, p := range outside() {
		if n := cloud.Near(example(), p, 2*far); len(n) > 0 {
			t.Error(i, n)
		}
	}
	d := &dice{33}
	for i, l := range samples(34) {
		p := at(d.roll(-far, far), d.roll(-far, far))
		if len(l) > 0 && d.pick(0, 1) == 0 {
			p = place(l[0])
		}
		for _, reach := range d.lengths(l, 2*far) {
			var want []int
			for n, q := range l {
				if square(p, place(q)) <= reach*reach {
					want = append(want, n)
				}
			}
			if n := cloud.Near(l, p, reach); !slices.Equal(n, want) {
				t.Error(i, p, reach, n)
			}
		}
	}
}

// P2.2
func TestNearest(t *testing.T) {
	for i, x := range []struct {
		l    []api.Point
		p    api.Spot
		k    int
		want []int
	}{
		{example(), at(0, 0), 3, []int{0, 1, 4}}, {example(), at(0, 0), 2, []int{0, 1}}, {example(), at(2000, 40), 2, []int{2, 3}}, {example(), at(2000, 40), 1, []int{2}},
		{example(), at(0, 0), 9, []int{0, 1, 4, 2, 3}}, {example(), at(0, 0), 5, []int{0, 1, 4, 2, 3}}, {example(), at(0, 0), math.MaxInt, []int{0, 1, 4, 2, 3}}, {example(), at(2000, 50), 2, []int{2, 3}}, {example(), at(2000, 51), 5, []int{3, 2, 1, 4, 0}},
		{example(), at(0, 0), 0, nil}, {example(), at(0, 0), -1, nil}, {example(), at(0, 0), math.MinInt, nil}, {nil, at(0, 0), 3, nil},
		{of(1, 0, 0, 0, 1, 0, -1, 0, 0, 0, -1, 0), at(0, 0), 2, []int{0, 1}}, {of(9, 9, 0, 0, 2, 0, 2, 0, 0, -2, 0, 0, 1, 1, 0), at(0, 0), 3, []int{4, 1, 2}},
		{of(far, far, 0, -far, -far, 0), at(-far, -far), 2, []int{1, 0}},
	} {
		if n := cloud.Nearest(x.l, x.p, x.k); !slices.Equal(n, x.want) {
			t.Error(i, n)
		}
	}
	for i, p := range outside() {
		if n := cloud.Nearest(example(), p, 2); len(n) > 0 {
			t.Error(i, n)
		}
	}
	d := &dice{35}
	for i, l := range samples(36) {
		s := spread(l)
		p := at(d.roll(-s, s), d.roll(-s, s))
		order := make([]int, len(l))
		for n := range order {
			order[n] = n
		}
		slices.SortStableFunc(order, func(a, b int) int {
			switch x, y := square(p, place(l[a])), square(p, place(l[b])); {
			case x < y:
				return -1
			case x > y:
				return 1
			}
			return 0
		})
		for _, k := range []int{1, 2, 3, len(l) / 2, len(l) - 1, len(l), len(l) + 1} {
			want := order[:max(0, min(k, len(l)))]
			if n := cloud.Nearest(l, p, k); !slices.Equal(n, want) {
				t.Error(i, p, k, n, want)
			}
		}
	}
}

// P2.6
func TestAround(t *testing.T) {
	for i, x := range []struct {
		l    []api.Point
		want api.Area
	}{
		{example(), api.Area{X1: 2000, Y1: 400}}, {of(5, -6, 3), api.Area{X0: 5, Y0: -6, X1: 5, Y1: -6}}, {of(0, 0, 0), api.Area{}},
		{of(3, 9, 0, 1, 4, 0, 2, 8, 0), api.Area{X0: 1, Y0: 4, X1: 3, Y1: 9}}, {of(-3, -9, 0, -1, -4, 0, -2, -8, 0), api.Area{X0: -3, Y0: -9, X1: -1, Y1: -4}},
		{of(far, -far, 0, -far, far, 0), api.Area{X0: -far, Y0: -far, X1: far, Y1: far}},
	} {
		if a, ok := cloud.Around(x.l); !ok || a != x.want {
			t.Error(i, a, ok)
		}
	}
	for _, l := range [][]api.Point{nil, {}} {
		if a, ok := cloud.Around(l); ok || a != (api.Area{}) {
			t.Error(a, ok)
		}
	}
	for i, l := range samples(37) {
		a, ok := cloud.Around(l)
		touched := make(map[string]bool)
		for _, p := range l {
			if p.X < a.X0 || p.X > a.X1 || p.Y < a.Y0 || p.Y > a.Y1 {
				t.Error(i, p, a)
			}
			for side, on := range map[string]bool{"left": p.X == a.X0, "right": p.X == a.X1, "below": p.Y == a.Y0, "above": p.Y == a.Y1} {
				touched[side] = touched[side] || on
			}
		}
		if ok != (len(l) > 0) || ok && !(touched["left"] && touched["right"] && touched["below"] && touched["above"]) {
			t.Error(i, a, ok, touched)
		}
	}
}
