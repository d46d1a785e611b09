package roads_test

import (
	"slices"
	"testing"

	"kerbstone/api"
	"kerbstone/curve"
	"kerbstone/roads"
)

// P3.1
func TestCheckReasons(t *testing.T) {
	places := flaws()
	for i, place := range places {
		for k, f := range place {
			m := full()
			f.make(&m)
			if e := roads.Check(m); e != f.want {
				t.Error(i, k, e, f.want)
			}
		}
	}
}

// P3.1, R1: of two flaws the one that is found first counts.
func TestFirstReason(t *testing.T) {
	places := flaws()
	for i, place := range places {
		for _, later := range places[i+1:] {
			for k, f := range place {
				m := full()
				later[k%len(later)].make(&m)
				f.make(&m)
				if e := roads.Check(m); e != f.want {
					t.Fatal(i, k, e, f.want)
				}
			}
		}
	}
}

// P3.1: numbers as great and as small as they may be.
func TestValidMaps(t *testing.T) {
	for i, change := range []func(m *api.Map){
		func(m *api.Map) {},
		func(m *api.Map) { m.Version = 0 },
		func(m *api.Map) { m.Version = api.MaxTick },
		func(m *api.Map) { m.Zones, m.Signals, m.Works = nil, nil, nil },
		func(m *api.Map) { m.Zones, m.Works = m.Zones[:0], m.Works[:0] },
		func(m *api.Map) { *m = api.Map{Lanes: []api.Lane{lane(row(2))}} },
		func(m *api.Map) { *m = api.Map{Lanes: []api.Lane{lane(row(2), []int{}...)}, Zones: []api.Zone{}} },
		func(m *api.Map) { m.Lanes[7].Half, m.Lanes[7].Limit = 4000, 2000 },
		func(m *api.Map) { m.Lanes[2].Half, m.Lanes[2].Limit = 4000, 1000 },
		func(m *api.Map) { m.Lanes[8].Half, m.Lanes[8].Limit = 200, 300 },
		func(m *api.Map) { m.Lanes[0].Next = []int{5} },
		func(m *api.Map) { m.Zones[0].Parts[0] = part(0, 99999, 100000, 100) },
		func(m *api.Map) { m.Zones[0].Parts[0] = part(0, 0, 100000, 0) },
		func(m *api.Map) { m.Zones[3].Signal = 0 },
		func(m *api.Map) { m.Zones[0].Signal = 0 },
		func(m *api.Map) { m.Signals[0].Phases[0].Ticks, m.Signals[0].Phases[5].Ticks = 10000, 1 },
		func(m *api.Map) { m.Works[0] = work(11, 15000, 15000, 0, 1, 0) },
		func(m *api.Map) { m.Works[0] = work(11, 0, 15000, api.MaxTick-1, api.MaxTick, 2000) },
		func(m *api.Map) { m.Works[0] = work(6, 0, 0, 7, 8, 1000) },
		func(m *api.Map) { m.Works[0] = work(9, 0, 100000, 0, api.MaxTick, 300) },
	} {
		m := full()
		change(&m)
		if e := roads.Check(m); e != api.OK {
			t.Error(i, e)
		}
	}
	for i, m := range towns(11, 300) {
		if e := roads.Check(m); e != api.OK {
			t.Error(i, e)
		}
	}
}

// P3.1: what is wrong with any row is found, not only with the first ones.
func TestCheckOfEachRow(t *testing.T) {
	check := func(want api.Errno, change func(m *api.Map)) {
		t.Helper()
		m := full()
		change(&m)
		if e := roads.Check(m); e != want {
			t.Error(e, want)
		}
	}
	for i := range api.MaxLanes {
		check(api.ErrKind, func(m *api.Map) { m.Lanes[i].Kind = 4 })
		check(api.ErrRange, func(m *api.Map) { m.Lanes[i].Half = 199 })
		check(api.ErrOrder, func(m *api.Map) { m.Lanes[i].Next = []int{i} })
		check(api.ErrShort, func(m *api.Map) { m.Lanes[i].Curve.Pts = nil })
		check(api.ErrFull, func(m *api.Map) { m.Lanes[i].Next = []int{8, 9, 10, 11} })
		end := curve.At(full().Lanes[i].Curve, curve.Length(full().Lanes[i].Curve))
		for _, n := range full().Lanes[i].Next {
			check(api.ErrForm, func(m *api.Map) { m.Lanes[n].Curve = of(end.X+1, end.Y, end.X+200001, end.Y) })
			check(api.ErrForm, func(m *api.Map) { m.Lanes[n].Curve = of(end.X, end.Y-1, end.X+200000, end.Y-1) })
		}
	}
	for i, z := range full().Zones {
		check(api.ErrShort, func(m *api.Map) { m.Zones[i].Parts = m.Zones[i].Parts[:1] })
		for k, p := range z.Parts {
			check(api.ErrRange, func(m *api.Map) { m.Zones[i].Parts[k].From = -1 })
			check(api.ErrRange, func(m *api.Map) { m.Zones[i].Parts[k].From = p.To })
			check(api.ErrRange, func(m *api.Map) { m.Zones[i].Parts[k].To = length(full(), p.Lane) + 1 })
			check(api.ErrRange, func(m *api.Map) { m.Zones[i].Parts[k].Rank = 101 })
			check(api.ErrOrder, func(m *api.Map) { m.Zones[i].Parts[k].Lane = 12 })
		}
	}
	for i, s := range full().Signals {
		check(api.ErrRange, func(m *api.Map) { m.Signals[i].Offset = -1 })
		for k := range s.Phases {
			check(api.ErrRange, func(m *api.Map) { m.Signals[i].Phases[k].Ticks = 10001 })
			check(api.ErrOrder, func(m *api.Map) { m.Signals[i].Phases[k].Green = []int{3, 3} })
		}
	}
	for i, w := range full().Works {
		check(api.ErrMissing, func(m *api.Map) { m.Works[i].Lane = 12 })
		check(api.ErrRange, func(m *api.Map) { m.Works[i].To = length(full(), w.Lane) + 1 })
		v, _, _ := roads.Bounds(full().Lanes[w.Lane].Kind)
		check(api.ErrRange, func(m *api.Map) { m.Works[i].Limit = v + 1 })
	}
}

// P3.1
func TestBounds(t *testing.T) {
	for kind, want := range map[int][3]int64{1: {2000, 30, 90}, 2: {1000, 20, 60}, 3: {300, 100, 300}, 0: {}, 4: {}, -1: {}, far: {}, low: {}} {
		if v, a, b := roads.Bounds(kind); [3]int64{v, a, b} != want {
			t.Error(kind, v, a, b)
		}
	}
}

// For a map that is not valid each function returns its zero value, or the
// error of Check.
func TestInvalidMaps(t *testing.T) {
	maps, errors := broken()
	for i, m := range maps {
		if len(roads.Clashes(m)) > 0 || roads.Fit(m) || len(roads.Sources(m)) > 0 {
			t.Error(i, roads.Clashes(m), roads.Fit(m), roads.Sources(m))
		}
		for n := range api.MaxLanes {
			if roads.Length(m, n) != 0 || len(roads.Before(m, n)) > 0 || roads.Leads(m, n/4, n) || roads.Leads(m, 0, n) || len(roads.Entries(m, n)) > 0 || roads.Limit(m, n, 5, 5) != 0 {
				t.Error(i, n)
			}
			for tick := range int64(3) {
				if roads.Green(m, n/3, n, tick) || len(roads.Red(m, n, tick)) > 0 {
					t.Error(i, n, tick)
				}
			}
		}
		for _, route := range [][]int{{0}, {0, 3}, {1, 4, 7}, {11}, nil} {
			l, s, ok := roads.Place(m, route, 5)
			if roads.CheckRoute(m, route) != errors[i] || roads.RouteLength(m, route) != 0 || len(roads.Starts(m, route)) > 0 || l != 0 || s != 0 || ok || len(roads.Passes(m, route)) > 0 || roads.Entry(m, route, 0) != -1 {
				t.Error(i, route)
			}
		}
		if b, e := roads.Bytes(m); b != "" || e != errors[i] {
			t.Error(i, e)
		}
		if to, e := roads.Apply(m, api.Patch{Base: m.Version + 1}); e != errors[i] || !roads.Same(to, api.Map{}) {
			t.Error(i, e)
		}
		other := maps[(7*i+1)%len(maps)]
		for _, pair := range [][2]api.Map{{m, full()}, {m, m}, {m, other}, {full(), m}} {
			if p, e := roads.Diff(pair[0], pair[1]); e != errors[i] || p.Base != 0 || len(p.Edits) > 0 {
				t.Error(i, e)
			}
		}
	}
}

// A map without contradictions does not fit either, if it is not valid.
func TestInvalidMapsDoNotFit(t *testing.T) {
	for i, m := range []api.Map{cross(), lights(), fork(), join()} {
		if !roads.Fit(m) {
			t.Error(i)
		}
		for k, change := range []func(m *api.Map){
			func(m *api.Map) { m.Version = -1 },
			func(m *api.Map) { m.Lanes[0].Limit = 0 },
			func(m *api.Map) { m.Lanes[4%len(m.Lanes)].Half = 199 },
			func(m *api.Map) { m.Zones[0].Parts[0].Rank = 101 },
			func(m *api.Map) { m.Works = append(m.Works, work(12, 0, 0, 0, 1, 0)) },
			func(m *api.Map) { m.Signals = append(m.Signals, api.Signal{}) },
			func(m *api.Map) { m.Lanes = nil },
			func(m *api.Map) { *m = api.Map{} },
		} {
			bad := roads.Copy(m)
			change(&bad)
			if roads.Fit(bad) || len(roads.Clashes(bad)) > 0 {
				t.Error(i, k)
			}
		}
	}
	if len(roads.Clashes(full())) == 0 {
		t.Error("the full map has no contradictions that its flaws could hide")
	}
}

// Numbers of lanes, zones and signals that are none.
func TestNoSuchNumbers(t *testing.T) {
	for i, m := range []api.Map{full(), cross(), lights(), fork()} {
		for _, n := range []int{-1, low, len(m.Lanes), 12, 13, 64, 65, 1 << 32, far} {
			if roads.Length(m, n) != 0 || len(roads.Before(m, n)) > 0 || roads.Limit(m, n, 0, 0) != 0 || len(roads.Red(m, n, 0)) > 0 {
				t.Error(i, n)
			}
			for k := range m.Lanes {
				if roads.Leads(m, n, k) || roads.Leads(m, k, n) || roads.Leads(m, n, n) {
					t.Error(i, n, k)
				}
			}
			for k := range m.Signals {
				if roads.Green(m, k, n, 5) {
					t.Error(i, n, k)
				}
			}
			if !slices.Equal(roads.Starts(m, []int{n}), nil) || roads.CheckRoute(m, []int{n}) != api.ErrRoute || roads.CheckRoute(m, []int{0, n}) != api.ErrRoute {
				t.Error(i, n)
			}
		}
		for _, n := range []int{-1, low, len(m.Zones), 12, 13, far} {
			if len(roads.Entries(m, n)) > 0 || roads.Entry(m, []int{0}, n) != -1 {
				t.Error(i, n)
			}
		}
		for _, n := range []int{-1, low, len(m.Signals), 4, 5, far} {
			for k := range m.Lanes {
				if roads.Green(m, n, k, 12) {
					t.Error(i, n, k)
				}
			}
		}
	}
}
