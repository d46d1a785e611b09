package roads_test

import (
	"cmp"
	"slices"
	"testing"

	"kerbstone/api"
	"kerbstone/roads"
)

// chain is a map with nine roads, one behind the other.
func chain() api.Map {
	var m api.Map
	for i := range int64(9) {
		m.Lanes = append(m.Lanes, lane(of(10000*i, 0, 10000*i+10000, 0), int(i)+1))
	}
	m.Lanes[8].Next = nil
	return m
}

// P3.3
func TestCheckRoute(t *testing.T) {
	for i, x := range []struct {
		m     api.Map
		route []int
		want  api.Errno
	}{
		{cross(), []int{0}, api.OK}, {cross(), []int{1}, api.OK}, {cross(), []int{0, 1}, api.ErrRoute}, {cross(), nil, api.ErrRoute}, {cross(), []int{}, api.ErrRoute}, {cross(), []int{0, 0}, api.ErrRoute},
		{fork(), []int{0, 2, 3}, api.OK}, {fork(), []int{0, 2}, api.OK}, {fork(), []int{1, 2, 4}, api.OK}, {fork(), []int{2, 4}, api.ErrRoute}, {fork(), []int{2}, api.ErrRoute}, {fork(), []int{0, 3}, api.ErrRoute},
		{fork(), []int{0, 2, 3, 4}, api.ErrRoute}, {fork(), []int{0, 1, 2}, api.ErrRoute}, {fork(), []int{0, 2, 2}, api.ErrRoute}, {fork(), []int{5}, api.OK}, {fork(), []int{5, 2}, api.ErrRoute}, {fork(), []int{6}, api.ErrRoute}, {fork(), []int{-1}, api.ErrRoute},
		{fork(), []int{0, 2, -1}, api.ErrRoute}, {fork(), []int{0, 2, 64 + 3}, api.ErrRoute}, {fork(), []int{0, 2, 32 + 3}, api.ErrRoute},
		{chain(), []int{0, 1, 2, 3, 4, 5, 6, 7}, api.OK}, {chain(), []int{0, 1, 2, 3, 4, 5, 6, 7, 8}, api.ErrRoute}, {chain(), []int{1, 2, 3, 4, 5, 6, 7, 8}, api.ErrRoute}, {chain(), make([]int, 1000), api.ErrRoute},
	} {
		if e := roads.CheckRoute(x.m, x.route); e != x.want {
			t.Error(i, e)
		}
	}
}

// P3.3: exactly the routes are routes.
func TestRoutesPlain(t *testing.T) {
	d := &dice{41}
	for i, m := range towns(42, 300) {
		list := routes(m)
		is := func(route []int) bool {
			return slices.ContainsFunc(list, func(l []int) bool { return slices.Equal(l, route) })
		}
		for _, route := range list {
			if e := roads.CheckRoute(m, route); e != api.OK {
				t.Error(i, route, e)
			}
			other := slices.Clone(route)
			other[d.roll(0, int64(len(other))-1)] += int(d.roll(-1, 1))
			if e := roads.CheckRoute(m, other); (e == api.OK) != is(other) || e != api.OK && e != api.ErrRoute {
				t.Error(i, other, e)
			}
		}
		for a := -1; a <= len(m.Lanes); a++ {
			for b := -1; b <= len(m.Lanes); b++ {
				if e := roads.CheckRoute(m, []int{a, b}); (e == api.OK) != is([]int{a, b}) {
					t.Error(i, a, b, e)
				}
			}
			if e := roads.CheckRoute(m, []int{a}); (e == api.OK) != is([]int{a}) {
				t.Error(i, a, e)
			}
		}
	}
}

// P3.3
func TestPlaceExamples(t *testing.T) {
	for i, x := range []struct {
		m      api.Map
		route  []int
		s      int64
		lane   int
		offset int64
		ok     bool
	}{
		{cross(), []int{0}, 60000, 0, 60000, true}, {cross(), []int{0}, 100001, 0, 0, false}, {cross(), []int{0}, 100000, 0, 100000, true}, {cross(), []int{1}, 0, 1, 0, true}, {cross(), []int{1}, -1, 0, 0, false}, {cross(), []int{1}, low, 0, 0, false}, {cross(), []int{1}, far, 0, 0, false},
		{fork(), []int{1, 2, 4}, 14999, 1, 14999, true}, {fork(), []int{1, 2, 4}, 15000, 2, 0, true}, {fork(), []int{1, 2, 4}, 44999, 2, 29999, true}, {fork(), []int{1, 2, 4}, 45000, 4, 0, true}, {fork(), []int{1, 2, 4}, 60000, 4, 15000, true}, {fork(), []int{1, 2, 4}, 60001, 0, 0, false},
		{fork(), []int{0, 2}, 20000, 2, 0, true}, {fork(), []int{0, 2}, 50000, 2, 30000, true}, {fork(), []int{0, 2}, 50001, 0, 0, false},
		{fork(), []int{2}, 5, 0, 0, false}, {fork(), nil, 0, 0, 0, false}, {fork(), []int{1, 2, 5}, 5, 0, 0, false},
	} {
		l, offset, ok := roads.Place(x.m, x.route, x.s)
		if l != x.lane || offset != x.offset || ok != x.ok {
			t.Error(i, l, offset, ok)
		}
	}
	if l := roads.Starts(fork(), []int{1, 2, 4}); !slices.Equal(l, []int64{0, 15000, 45000}) {
		t.Error(l)
	}
	if a, b, c := roads.RouteLength(fork(), []int{1, 2, 4}), roads.RouteLength(fork(), []int{0, 2}), roads.RouteLength(chain(), []int{0, 1, 2, 3, 4, 5, 6, 7}); a != 60000 || b != 50000 || c != 80000 {
		t.Error(a, b, c)
	}
}

// P3.3
func TestPassesExamples(t *testing.T) {
	pass := func(zone, part int, from, to int64) api.Pass {
		return api.Pass{Zone: zone, Part: part, From: from, To: to}
	}
	many := chain()
	many.Zones = []api.Zone{
		zone(0, part(1, 5, 90, 0), part(2, 7, 10, 0)),
		zone(0, part(0, 9000, 9001, 0), part(1, 3, 4, 0), part(2, 6, 9, 0)),
		zone(0, part(1, 5, 60, 0), part(3, 0, 1, 0)),
		zone(0, part(0, 10000-5, 10000, 0), part(1, 0, 1, 0)),
		zone(0, part(4, 5, 60, 0), part(5, 0, 1, 0)),
	}
	for i, x := range []struct {
		m     api.Map
		route []int
		want  []api.Pass
	}{
		{cross(), []int{1}, []api.Pass{pass(0, 1, 48000, 52000)}}, {cross(), []int{0}, []api.Pass{pass(0, 0, 48000, 52000)}}, {cross(), []int{0, 1}, nil}, {cross(), nil, nil},
		{fork(), []int{0, 2, 3}, []api.Pass{pass(0, 0, 15000, 20000), pass(0, 2, 20000, 24000), pass(2, 0, 21000, 22000), pass(1, 0, 68000, 72000)}},
		{fork(), []int{1, 2}, []api.Pass{pass(0, 1, 12000, 15000), pass(0, 2, 15000, 19000), pass(2, 0, 16000, 17000)}},
		{fork(), []int{5}, []api.Pass{pass(2, 1, 0, 22000), pass(1, 1, 18000, 22000)}},
		{many, []int{0, 1, 2, 3}, []api.Pass{pass(1, 0, 9000, 9001), pass(3, 0, 9995, 10000), pass(3, 1, 10000, 10001), pass(1, 1, 10003, 10004), pass(0, 0, 10005, 10090), pass(2, 0, 10005, 10060), pass(1, 2, 20006, 20009), pass(0, 1, 20007, 20010), pass(2, 1, 30000, 30001)}},
	} {
		if l := roads.Passes(x.m, x.route); !slices.Equal(l, x.want) {
			t.Error(i, l)
		}
	}
}

// P3.3
func TestEntryExamples(t *testing.T) {
	for i, x := range []struct {
		m     api.Map
		route []int
		zone  int
		want  int
	}{
		{cross(), []int{1}, 0, 0}, {cross(), []int{1}, 1, -1}, {cross(), []int{1}, -1, -1}, {cross(), nil, 0, -1}, {cross(), []int{0, 1}, 0, -1},
		{fork(), []int{0, 2, 3}, 0, 0}, {fork(), []int{0, 2, 3}, 1, 2}, {fork(), []int{0, 2, 3}, 2, 1}, {fork(), []int{0, 2, 4}, 1, -1}, {fork(), []int{5}, 0, -1}, {fork(), []int{5}, 2, 0}, {fork(), []int{2, 3}, 1, -1}, {fork(), []int{0, 2, 3}, 3, -1},
	} {
		if n := roads.Entry(x.m, x.route, x.zone); n != x.want {
			t.Error(i, n)
		}
	}
}

// P3.3
func TestPassesPlain(t *testing.T) {
	var several int
	for i, m := range towns(43, 500) {
		for _, route := range routes(m) {
			var starts []int64
			var whole int64
			var passes []api.Pass
			for _, l := range route {
				starts = append(starts, whole)
				for n, z := range m.Zones {
					for k, p := range z.Parts {
						if p.Lane == l {
							passes = append(passes, api.Pass{Zone: n, Part: k, From: whole + p.From, To: whole + p.To})
						}
					}
				}
				whole += length(m, l)
			}
			slices.SortFunc(passes, func(a, b api.Pass) int {
				return cmp.Or(cmp.Compare(a.From, b.From), cmp.Compare(a.Zone, b.Zone))
			})
			if n, l := roads.RouteLength(m, route), roads.Starts(m, route); n != whole || !slices.Equal(l, starts) {
				t.Error(i, route, n, l)
			}
			if l := roads.Passes(m, route); !slices.Equal(l, passes) {
				t.Error(i, route, l)
			}
			several += len(passes) / 5
			for n, z := range m.Zones {
				want := slices.IndexFunc(route, func(l int) bool {
					return slices.ContainsFunc(z.Parts, func(p api.Part) bool { return p.Lane == l })
				})
				if e := roads.Entry(m, route, n); e != want {
					t.Error(i, route, n, e)
				}
			}
		}
	}
	if several < 300 {
		t.Error("too few passes to show anything:", several)
	}
}

// P3.3: what is not a route has nothing.
func TestNoRoutes(t *testing.T) {
	for _, m := range []api.Map{fork(), full(), chain()} {
		for i, route := range [][]int{nil, {}, {2}, {3}, {-1}, {12}, {0, 1}, {0, 0}, {0, far}, {low}, {0, 2, 3, 5}, {0, 1, 2, 3, 4, 5, 6, 7, 8}, {0, 3, 4}, {0, 3, 7, 8}} {
			if roads.CheckRoute(m, route) == api.OK {
				continue // one of the maps has it
			}
			l, s, ok := roads.Place(m, route, 0)
			if l != 0 || s != 0 || ok || roads.RouteLength(m, route) != 0 || len(roads.Starts(m, route)) > 0 || len(roads.Passes(m, route)) > 0 {
				t.Error(i, l, s, ok)
			}
			for z := range 3 {
				if n := roads.Entry(m, route, z); n != -1 {
					t.Error(i, z, n)
				}
			}
		}
	}
}
