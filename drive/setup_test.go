package drive_test

import (
	"slices"
	"testing"

	"kerbstone/api"
	"kerbstone/drive"
	"kerbstone/roads"
)

// flaws are changes of a valid setup, by the order in which their errors are
// found.
func flaws() []flaw {
	return []flaw{
		{"version", func(s *api.NodeSetup) { s.Map.Version = -1 }, api.ErrRange},
		{"no lanes", func(s *api.NodeSetup) { s.Map.Lanes = nil }, api.ErrShort},
		{"lane", func(s *api.NodeSetup) { s.Map.Lanes[0].Kind = 4 }, api.ErrKind},
		{"clash", func(s *api.NodeSetup) { s.Map.Zones[0].Parts[0].Rank = 0 }, api.ErrClash},
		{"no route", func(s *api.NodeSetup) { s.Route = nil }, api.ErrRoute},
		{"another route", func(s *api.NodeSetup) { s.Route = []int{0, 1} }, api.ErrRoute},
		{"kind", func(s *api.NodeSetup) { s.Map.Lanes[0].Kind, s.Map.Lanes[0].Limit = api.LaneBike, 900 }, api.ErrKind},
		{"car", func(s *api.NodeSetup) { s.Car.Brake = 91 }, api.ErrRange},
		{"tick", func(s *api.NodeSetup) { s.Tick = -1 }, api.ErrRange},
		{"late tick", func(s *api.NodeSetup) { s.Tick = api.MaxTick - 999999 }, api.ErrRange},
		{"budget", func(s *api.NodeSetup) { s.Budget = 9 }, api.ErrRange},
		{"low budget", func(s *api.NodeSetup) { s.Budget = -1 }, api.ErrRange},
		{"silence", func(s *api.NodeSetup) { s.Silence = 1001 }, api.ErrRange},
		{"low silence", func(s *api.NodeSetup) { s.Silence = -1 }, api.ErrRange},
		{"speed", func(s *api.NodeSetup) { s.Ego.VLo, s.Ego.VHi = 1, 1 }, api.ErrState},
		{"greater speed", func(s *api.NodeSetup) { s.Ego.VHi = 1 }, api.ErrState},
		{"speed below 0", func(s *api.NodeSetup) { s.Ego.VLo = -1 }, api.ErrState},
		{"place", func(s *api.NodeSetup) { s.Ego.SHi = 9999 }, api.ErrState},
		{"rear", func(s *api.NodeSetup) { s.Ego.SLo = 4000 }, api.ErrState},
		{"zone", func(s *api.NodeSetup) { s.Ego.SLo, s.Ego.SHi = 50000, 50000 }, api.ErrState},
	}
}

type flaw struct {
	name   string
	change func(*api.NodeSetup)
	want   api.Errno
}

// plainSetup is a valid setup on the map Cross.
func plainSetup() api.NodeSetup {
	s := setup()
	s.Map = cross()
	return s
}

// P8.2, R1: each flaw has its error, also with a later one.
func TestCheckSetup(t *testing.T) {
	if e := drive.CheckSetup(plainSetup()); e != api.OK {
		t.Fatal(e)
	}
	for i, f := range flaws() {
		s := plainSetup()
		f.change(&s)
		if e := drive.CheckSetup(s); e != f.want {
			t.Error(f.name, e)
		}
		if n, e := drive.NewNode(s); n != nil || e != f.want {
			t.Error(f.name, n, e)
		}
		for _, g := range flaws()[i+1:] {
			s := plainSetup()
			g.change(&s)
			f.change(&s)
			if e := drive.CheckSetup(s); e != f.want {
				t.Error(f.name, g.name, e)
			}
		}
	}
}

// P8.2: the errors of a map come first, those that contradict themselves next.
func TestCheckSetupOfMaps(t *testing.T) {
	bad := api.NodeSetup{Map: cross(), Route: []int{9}, Tick: -1}
	for i, x := range []struct {
		change func(*api.NodeSetup)
		want   api.Errno
	}{
		{func(s *api.NodeSetup) { s.Map = api.Map{} }, api.ErrShort},
		{func(s *api.NodeSetup) { s.Map.Zones[0].Signal = 1 }, api.ErrRange},
		{func(s *api.NodeSetup) { s.Map.Lanes[1].Next = []int{1} }, api.ErrOrder},
		{func(s *api.NodeSetup) { s.Map.Works = []api.Work{work(5, 0, 0, 0, 1, 0)} }, api.ErrMissing},
		{func(s *api.NodeSetup) { s.Map.Zones[0].Parts[0].Rank = 0 }, api.ErrClash},
		{func(s *api.NodeSetup) { s.Map = merge(); s.Map.Zones = nil }, api.ErrClash},
		{func(s *api.NodeSetup) {}, api.ErrRoute},
		{func(s *api.NodeSetup) { s.Route = []int{0, 0} }, api.ErrRoute},
		{func(s *api.NodeSetup) { s.Route = []int{-1} }, api.ErrRoute},
		{func(s *api.NodeSetup) { s.Map, s.Route = merge(), []int{2} }, api.ErrRoute},
		{func(s *api.NodeSetup) { s.Map, s.Route = fork(), []int{6, 7} }, api.ErrKind},
		{func(s *api.NodeSetup) { s.Map, s.Route = fork(), []int{8} }, api.ErrKind},
		{func(s *api.NodeSetup) { s.Route = []int{0} }, api.ErrRange},
		// Two roads that only overlap do not contradict each other.
		{func(s *api.NodeSetup) { s.Map.Zones, s.Route = nil, []int{0} }, api.ErrRange},
	} {
		s := bad
		s.Map = cross()
		x.change(&s)
		if e := drive.CheckSetup(s); e != x.want {
			t.Error(i, e)
		}
	}
}

// P8.2: the bounds of the numbers.
func TestCheckSetupOfNumbers(t *testing.T) {
	for i, x := range []struct {
		change func(*api.NodeSetup)
		want   api.Errno
	}{
		{func(s *api.NodeSetup) { s.Tick = api.MaxTick - 1000000 }, api.OK},
		{func(s *api.NodeSetup) { s.Tick = far }, api.ErrRange},
		{func(s *api.NodeSetup) { s.Tick = low }, api.ErrRange},
		{func(s *api.NodeSetup) { s.Budget = 0 }, api.OK},
		{func(s *api.NodeSetup) { s.Budget = far }, api.ErrRange},
		{func(s *api.NodeSetup) { s.Budget = low }, api.ErrRange},
		{func(s *api.NodeSetup) { s.Silence = 0 }, api.OK},
		{func(s *api.NodeSetup) { s.Silence = 1000 }, api.OK},
		{func(s *api.NodeSetup) { s.Silence = far }, api.ErrRange},
		{func(s *api.NodeSetup) { s.Signals = false }, api.OK},
		{func(s *api.NodeSetup) { s.Car.Delay = 5 }, api.OK},
		{func(s *api.NodeSetup) { s.Car.Delay = 6 }, api.ErrRange},
		{func(s *api.NodeSetup) { s.Car.Len = 20001 }, api.ErrRange},
		{func(s *api.NodeSetup) { s.Car = api.Car{} }, api.ErrRange},
		// Whatever Ego is, the errors of the numbers come first.
		{func(s *api.NodeSetup) { s.Silence, s.Ego.VHi = 1001, 5 }, api.ErrRange},
	} {
		s := plainSetup()
		x.change(&s)
		if e := drive.CheckSetup(s); e != x.want {
			t.Error(i, e)
		}
	}
}

// P8.2: where the vehicle may be at first.
func TestCheckSetupOfPlaces(t *testing.T) {
	maps := []api.Map{cross(), straight(), merge(), fork()}
	for i, x := range []struct {
		m        int
		route    []int
		slo, shi int64
		want     api.Errno
	}{
		{1, []int{0}, 10000, 10000, api.OK}, {1, []int{0}, 10000, 9999, api.ErrState}, {1, []int{0}, far, low, api.ErrState}, {1, []int{0}, low, far, api.ErrState},
		// The rear is on the route.
		{1, []int{0}, 4000, 4000, api.ErrState}, {1, []int{0}, 4001, 4001, api.OK}, {1, []int{0}, 0, 0, api.ErrState}, {1, []int{0}, -1, 5000, api.ErrState}, {1, []int{0}, low, low, api.ErrState}, {1, []int{0}, low, 5000, api.ErrState},
		{1, []int{0}, 4001, 8000, api.OK}, {1, []int{0}, 4000, 7999, api.ErrState},
		// There is a gap.
		{1, []int{0}, 10000, 13999, api.OK}, {1, []int{0}, 10000, 14000, api.ErrState}, {1, []int{0}, 10000, 14001, api.ErrState},
		// The front is on the route.
		{1, []int{0}, 100000, 100000, api.OK}, {1, []int{0}, 100001, 100001, api.ErrState}, {1, []int{0}, 98000, 100000, api.OK}, {1, []int{0}, 98000, 100001, api.ErrState}, {1, []int{0}, far, far, api.ErrState},
		// The zone is from 48000 to 52000 in the map Cross.
		{0, []int{0}, 47999, 47999, api.OK}, {0, []int{0}, 48000, 48000, api.ErrState}, {0, []int{0}, 47000, 47999, api.OK}, {0, []int{0}, 47000, 48000, api.ErrState},
		{0, []int{0}, 56000, 56000, api.ErrState}, {0, []int{0}, 56001, 56001, api.OK}, {0, []int{0}, 56000, 57000, api.ErrState}, {0, []int{0}, 56001, 57000, api.OK}, {0, []int{0}, 54000, 54000, api.ErrState}, {0, []int{1}, 47999, 47999, api.OK}, {0, []int{1}, 48000, 48000, api.ErrState},
		// In merge the zone has two passes on a route: from 25000 on, and from 30000
		// to 35000.
		{2, []int{0, 2}, 24999, 24999, api.OK}, {2, []int{0, 2}, 25000, 25000, api.ErrState}, {2, []int{0, 2}, 39000, 39000, api.ErrState}, {2, []int{0, 2}, 39001, 39001, api.OK}, {2, []int{0}, 24999, 24999, api.OK}, {2, []int{0}, 30000, 30000, api.ErrState}, {2, []int{1, 2}, 19999, 19999, api.OK}, {2, []int{1, 2}, 20000, 20000, api.ErrState}, {2, []int{1, 2}, 35000, 35000, api.ErrState}, {2, []int{1, 2}, 35001, 35001, api.OK},
	} {
		s := plainSetup()
		s.Map, s.Route, s.Ego = maps[x.m], x.route, ego(x.slo, x.shi, 0, 0)
		if e := drive.CheckSetup(s); e != x.want {
			t.Error(i, e)
		}
	}
	// Each zone counts: in fork with a short car.
	s := plainSetup()
	s.Map, s.Route, s.Car.Len = fork(), []int{0, 2, 3, 5}, 300
	for at := int64(301); at <= 9000; at++ {
		s.Ego = ego(at, at, 0, 0)
		in := meet(at-300, at, 1000, 3400) || meet(at-300, at, 6500, 7500) || meet(at-300, at, 8000, 8500)
		if e := drive.CheckSetup(s); (e == api.OK) == in || e != api.OK && e != api.ErrState {
			t.Fatal(at, e)
		}
	}
}

// meet reports whether two intervals have a number in common.
func meet(a, b, c, d int64) bool { return max(a, c) <= min(b, d) }

// P8.2: the setup of a random place is valid exactly if all of what is said of
// it holds.
func TestCheckSetupOfRandomPlaces(t *testing.T) {
	d := &dice{82}
	count := [2]int{}
	for i := range 4000 {
		m := d.town()
		route := d.route(m, api.LaneRoad)
		if route == nil {
			continue
		}
		s := api.NodeSetup{Map: m, Route: route, Car: d.car()}
		n := roads.RouteLength(m, route)
		places := []int64{d.roll(0, n), s.Car.Len + 1, s.Car.Len, n, n + 1}
		for _, p := range roads.Passes(m, route) {
			places = append(places, p.From, p.From-1, p.To+s.Car.Len, p.To+s.Car.Len+1)
		}
		s.Ego.SLo = d.pick(places...)
		s.Ego.SHi = s.Ego.SLo + d.pick(0, 0, s.Car.Len-1, s.Car.Len, d.roll(0, s.Car.Len), d.roll(-3, 3))
		want := s.Ego.SLo <= s.Ego.SHi && s.Ego.SLo-s.Car.Len >= 1 && s.Ego.SHi-s.Ego.SLo < s.Car.Len && s.Ego.SHi <= n
		for z := range m.Zones {
			l := slices.DeleteFunc(roads.Passes(m, route), func(p api.Pass) bool { return p.Zone != z })
			want = want && (len(l) == 0 || s.Ego.SHi < l[0].From || s.Ego.SLo-s.Car.Len > l[len(l)-1].To)
		}
		e := drive.CheckSetup(s)
		if want != (e == api.OK) || !want && e != api.ErrState {
			t.Fatal(i, e, want, s)
		}
		if want {
			count[1]++
		} else {
			count[0]++
		}
	}
	if min(count[0], count[1]) < 300 {
		t.Error("too few setups to show anything:", count)
	}
}
