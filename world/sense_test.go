package world_test

import (
	"reflect"
	"slices"
	"testing"

	"kerbstone/api"
	"kerbstone/world"
)

// ahead is the state of the chapter's examples: somebody stands ahead of the
// vehicle.
func ahead() api.State { return state(3, agent(10000, 1000, 0), agent(15000, 0, 0)) }

// bend is a map with one road that turns to the left, one of 2500 beside it,
// and a short way for walkers where it turns.
func bend() api.Map {
	return api.Map{Lanes: []api.Lane{lane(1, of(0, 0, 10000, 0, 13000, 4000, 13000, 14000)), lane(1, of(0, 5000, 2500, 5000)), lane(3, of(10000, 1500, 10000, 2500))}}
}

// P4.5
func TestSeenExamples(t *testing.T) {
	hidden := spans(0, 0, 16000, 1, 0, 49000, 1, 51000, 100000)
	small := api.Agent{Route: []int{1}, S: 2400, Len: 300}
	for i, x := range []struct {
		m    api.Map
		s    api.State
		view int64
		want []api.Span
	}{
		{cross(), ahead(), 100000, hidden},
		{cross(), ahead(), api.MaxSpot, hidden},
		{cross(), ahead(), 64031, spans(0, 0, 16000, 1, 1000, 49000, 1, 51000, 99000)},
		{cross(), ahead(), 41000, spans(0, 0, 16000, 1, 41000, 49000, 1, 51000, 59000)},
		{cross(), ahead(), 40012, spans(0, 0, 16000)},
		{cross(), ahead(), 5999, spans(0, 5000, 15000)}, {cross(), ahead(), 6000, spans(0, 4000, 16000)},
		{cross(), ahead(), 1000, spans(0, 9000, 11000)}, {cross(), ahead(), 999, nil}, {cross(), ahead(), 0, nil},
		{cross(), state(0, agent(10000, 0, 0)), 90000, spans(0, 0, 100000, 1, 0, 100000)},
		{cross(), state(0, agent(10000, 0, 0)), 89999, spans(0, 0, 99000, 1, 0, 100000)},
		// An agent does not hide the cells in which it has a part of its body.
		{cross(), state(0, agent(10000, 0, 0), agent(15001, 0, 0)), 90000, spans(0, 0, 16000, 1, 0, 49000, 1, 51000, 100000)},
		{cross(), state(0, agent(10000, 0, 0), agent(14999, 0, 0)), 90000, spans(0, 0, 15000, 1, 0, 49000, 1, 51000, 100000)},
		{cross(), state(0, agent(10000, 0, 0), agent(8000, 0, 0)), 90000, spans(0, 3000, 100000, 1, 0, 100000)},
		// Two of them hide each other.
		{cross(), state(0, agent(10000, 0, 0), agent(19000, 0, 0), agent(30000, 0, 0)), 30000, spans(0, 0, 20000)},
		{cross(), state(0, agent(10000, 0, 0), agent(15000, 0, 0), agent(20000, 0, 0)), 30000, spans(0, 0, 16000)},
		{cross(), state(0, agent(10000, 0, 0), agent(14800, 0, 0), agent(18900, 0, 0)), 30000, spans(0, 0, 15000)},
		// One that is not there hides nothing.
		{cross(), state(0, agent(10000, 0, 0), with(agent(0, 0, 0), func(a *api.Agent) { a.Begin = 1 })), 30000, spans(0, 0, 40000)},
		{cross(), state(1, agent(10000, 0, 0), with(agent(0, 0, 0), func(a *api.Agent) { a.Begin = 1 })), 30000, spans(0, 0, 40000)},
		{cross(), state(0, agent(90000, 0, 0), with(agent(104001, 0, 0), func(a *api.Agent) { a.Gone = true })), 10000, spans(0, 80000, 100000)},
		// The vehicle has an eye where its route ends.
		{cross(), state(0, with(agent(105000, 0, 0), func(a *api.Agent) { a.Gone = true })), 2000, spans(0, 98000, 100000)},
		{cross(), state(0, agent(101000, 0, 0)), 2000, spans(0, 98000, 100000)},
		{cross(), state(0, agent(101000, 0, 0), agent(102000, 0, 0)), 2000, spans(0, 98000, 100000)},
		{cross(), state(0, agent(0, 0, 0), agent(2000, 0, 0)), 4000, spans(0, 0, 3000)},
		// The last cell of a lane ends with it; the bar goes from the front to the rear.
		{bend(), state(0, agent(0, 0, 0)), 5590, spans(0, 0, 5000, 1, 0, 2000)},
		{bend(), state(0, agent(0, 0, 0)), 5591, spans(0, 0, 5000, 1, 0, 2500)},
		{bend(), state(0, agent(0, 0, 0)), 5386, spans(0, 0, 5000, 1, 0, 2000)},
		{bend(), state(0, agent(0, 0, 0)), 5385, spans(0, 0, 5000, 1, 0, 1000)},
		{bend(), state(0, agent(0, 0, 0), small), 9000, spans(0, 0, 9000, 1, 0, 2500)},
		{bend(), state(0, agent(8000, 0, 0), agent(14000, 0, 0)), 30000, spans(0, 0, 25000, 1, 0, 2500, 2, 0, 1000)},
		{bend(), state(0, agent(2000, 0, 0), agent(17000, 0, 0)), 30000, spans(0, 0, 25000, 1, 0, 2500, 2, 0, 1000)},
		{bend(), state(0, agent(2000, 0, 0), with(agent(17000, 0, 0), func(a *api.Agent) { a.Len = 9000 })), 30000, spans(0, 0, 25000, 1, 0, 2500)},
	} {
		if got := world.Seen(x.m, x.s, x.view); !slices.Equal(got, x.want) {
			t.Error(i, got)
		}
	}
}

// P4.5
func TestSenseExamples(t *testing.T) {
	points := func(l ...int64) []api.Point {
		var p []api.Point
		for i := 0; i+2 < len(l); i += 3 {
			p = append(p, api.Point{X: l[i], Y: l[i+1], V: l[i+2]})
		}
		return p
	}
	row := points(11000, 0, 0, 11500, 0, 0, 12000, 0, 0, 12500, 0, 0, 13000, 0, 0, 13500, 0, 0, 14000, 0, 0, 14500, 0, 0, 15000, 0, 0)
	change := func(l []api.Point, more ...api.Point) []api.Point { return slices.Concat(more, l[len(more):]) }
	short := func(s int64) api.Agent { return with(agent(s, 70, 0), func(a *api.Agent) { a.Len = 1200 }) }
	for i, x := range []struct {
		m     api.Map
		s     api.State
		view  int64
		noise []int64
		want  []api.Point
	}{
		{cross(), ahead(), 100000, nil, row},
		{cross(), ahead(), 100000, []int64{}, row},
		{cross(), ahead(), 100000, []int64{0}, change(row, points(10950, 0, 0)...)},
		{cross(), ahead(), 100000, []int64{50, 100, 5}, change(row, points(11000, 50, 0)...)},
		{cross(), ahead(), 100000, []int64{101, 49, 4}, change(row, points(10950, -1, -1)...)},
		{cross(), ahead(), 100000, []int64{-1, -101, -1, 51, 52}, change(row, points(11050, -50, 5, 11501, 2, 0)...)},
		{cross(), ahead(), 100000, []int64{far, low, far, 50, 50, 10}, change(row, points(11000+far%101-50, 101+low%101-50, far%11-5, 11500, 0, 5)...)},
		{cross(), ahead(), 5999, nil, row},
		{cross(), ahead(), 2999, nil, row[:3]},
		{cross(), ahead(), 999, nil, nil},
		// The last point stands alone, if the part is not a multiple of 500.
		{cross(), state(0, agent(10000, 0, 0), short(15000)), 9000, nil, points(13800, 0, 70, 14300, 0, 70, 14800, 0, 70, 15000, 0, 70)},
		{cross(), state(0, agent(10000, 0, 0), short(700)), 9999, nil, nil},
		{cross(), state(0, agent(10000, 0, 0), short(700)), 10000, nil, points(0, 0, 70, 500, 0, 70, 700, 0, 70)},
		{cross(), state(0, agent(10000, 0, 0), short(0)), 10000, nil, points(0, 0, 70)},
		{cross(), state(0, agent(10000, 0, 0), with(short(0), func(a *api.Agent) { a.Begin = 1 })), 10000, nil, nil},
		// A body may be in several spans, and on several lanes.
		{cross(), state(0, agent(10000, 0, 0), short(15500), short(15700)), 9000, nil, points(14300, 0, 70, 14800, 0, 70, 15300, 0, 70, 15500, 0, 70, 14500, 0, 70, 15000, 0, 70, 15500, 0, 70, 15700, 0, 70)},
		{cross(), state(0, agent(49000, 5, 0), with(agent(51500, 7, 1), func(a *api.Agent) { a.Len = 3000 })), 2300, nil, points(50000, -1500, 7, 50000, -1000, 7, 50000, -500, 7, 50000, 0, 7, 50000, 500, 7, 50000, 1000, 7, 50000, 1500, 7)},
		{fork(), state(0, agent(10000, 5, 0), with(agent(20600, 9, 0, 2), func(a *api.Agent) { a.Len = 1300 })), 15000, nil, points(19300, 0, 9, 19800, 0, 9, 20000, 0, 9, 20000, 0, 9, 20500, 0, 9, 20600, 0, 9)},
		// At rounds down on its way.
		{bend(), state(0, agent(0, 0, 0), with(agent(14001, 9, 0), func(a *api.Agent) { a.Len = 502 })), 30000, nil, points(12099, 2799, 9, 12399, 3199, 9, 12400, 3200, 9)},
	} {
		got := world.Sense(x.m, x.s, x.view, x.noise)
		if got.Stamp != x.s.Tick || !slices.Equal(got.Points, x.want) || !slices.Equal(got.Seen, world.Seen(x.m, x.s, x.view)) {
			t.Error(i, got)
		}
	}
}

// P4.5: without a state or a view there is nothing.
func TestSenseOfNothing(t *testing.T) {
	zero := func(i, k int, m api.Map, s api.State, view int64) {
		t.Helper()
		if l, scan := world.Seen(m, s, view), world.Sense(m, s, view, []int64{1}); len(l) > 0 || !reflect.DeepEqual(scan, api.Scan{}) {
			t.Error(i, k, l, scan)
		}
	}
	for i, place := range flaws() {
		for k, f := range place {
			m, s := fork(), full()
			f.make(&m, &s)
			zero(i, k, m, s, api.MaxSpot)
		}
	}
	for i, view := range []int64{-1, api.MaxSpot + 1, 2 * api.MaxSpot, far, low} {
		zero(-1, i, cross(), ahead(), view)
	}
	if scan := world.Sense(cross(), ahead(), 0, nil); scan.Stamp != 3 || len(scan.Seen) > 0 || len(scan.Points) > 0 {
		t.Error(scan)
	}
}

// P4.5
func TestSensePlain(t *testing.T) {
	d := &dice{51}
	hidden, points := 0, 0
	for i, x := range stages(t, 52, 1200) {
		view := d.pick(api.MaxSpot, d.roll(0, 40000), d.roll(0, 20000))
		want := seen(x.m, x.s, view)
		if got := world.Seen(x.m, x.s, view); !slices.Equal(got, want) {
			t.Error(i, got, want)
		}
		noise := d.noise(d.pick(0, 1, 40, 1000, d.roll(0, 300)))
		scan := world.Sense(x.m, x.s, view, noise)
		if l := scanned(x.m, x.s, view, noise); scan.Stamp != x.s.Tick || !slices.Equal(scan.Seen, want) || !slices.Equal(scan.Points, l) {
			t.Error(i, scan, l)
		}
		if points += len(scan.Points); !slices.Equal(want, seen(x.m, state(x.s.Tick, x.s.Agents[0]), view)) {
			hidden++
		}
	}
	if hidden < 300 || points < 3000 {
		t.Error("too few cases to show anything:", hidden, points)
	}
}

// P4.6
func TestMarks(t *testing.T) {
	mark := func(lo, hi int64) api.Mark { return api.Mark{Stamp: 3, Lo: lo, Hi: hi} }
	for i, x := range []struct{ got, want api.Mark }{
		{world.Speed(ahead(), 0), mark(994, 1000)}, {world.Speed(ahead(), 3), mark(997, 1003)}, {world.Speed(ahead(), 6), mark(1000, 1006)}, {world.Speed(ahead(), 7), mark(994, 1000)}, {world.Speed(ahead(), -1), mark(1000, 1006)}, {world.Speed(ahead(), -7), mark(994, 1000)},
		{world.Speed(ahead(), far), mark(994+far%7, 1000+far%7)}, {world.Speed(ahead(), low), mark(994+low%7+7, 1000+low%7+7)},
		{world.Fix(ahead(), 200), mark(9800, 10200)}, {world.Fix(ahead(), 0), mark(9600, 10000)}, {world.Fix(ahead(), 400), mark(10000, 10400)}, {world.Fix(ahead(), 401), mark(9600, 10000)}, {world.Fix(ahead(), -1), mark(10000, 10400)}, {world.Fix(ahead(), -401), mark(9600, 10000)},
		{world.Fix(ahead(), far), mark(9600+far%401, 10000+far%401)}, {world.Fix(ahead(), low), mark(9600+low%401+401, 10000+low%401+401)},
		// No speed is measured below 0.
		{world.Speed(state(3, api.Agent{V: 5}), 0), mark(0, 5)}, {world.Speed(state(3, api.Agent{V: 6}), 0), mark(0, 6)}, {world.Speed(state(3, api.Agent{V: 7}), 0), mark(1, 7)}, {world.Speed(state(3, api.Agent{}), 0), mark(0, 0)}, {world.Speed(state(3, api.Agent{}), 6), mark(0, 6)},
		// A place is, near the start of the route: Lo is always Hi - 400.
		{world.Fix(state(3, api.Agent{}), 0), mark(-400, 0)}, {world.Fix(state(3, api.Agent{}), 200), mark(-200, 200)}, {world.Fix(state(3, api.Agent{}), 399), mark(-1, 399)}, {world.Fix(state(3, api.Agent{}), 400), mark(0, 400)}, {world.Fix(state(3, api.Agent{}), -1), mark(0, 400)}, {world.Fix(state(3, api.Agent{}), -401), mark(-400, 0)}, {world.Fix(state(3, api.Agent{S: 199}), 200), mark(-1, 399)}, {world.Fix(state(3, api.Agent{S: 200}), 200), mark(0, 400)}, {world.Fix(state(3, api.Agent{S: 201}), 200), mark(1, 401)}, {world.Fix(state(3, api.Agent{S: 399}), 0), mark(-1, 399)}, {world.Fix(state(3, api.Agent{S: 400}), 0), mark(0, 400)}, {world.Fix(state(3, api.Agent{S: 401}), 0), mark(1, 401)},
		{world.Fix(state(3, api.Agent{}), low), mark(low%401+1, low%401+401)}, {world.Fix(state(3, api.Agent{}), far), mark(far%401-400, far%401)},
		// The state need not be valid otherwise.
		{world.Speed(state(3, api.Agent{V: api.MaxTick, S: api.MaxTick, Len: low, Begin: far, Gone: true}), 3), mark(api.MaxTick-3, api.MaxTick+3)},
		{world.Fix(state(3, api.Agent{V: api.MaxTick, S: api.MaxTick, Route: []int{7}}), 200), mark(api.MaxTick-200, api.MaxTick+200)},
		{world.Fix(state(low, api.Agent{S: 1000}), 200), api.Mark{Stamp: low, Lo: 800, Hi: 1200}},
		{world.Speed(state(far, make([]api.Agent, 20)...), 6), api.Mark{Stamp: far, Hi: 6}},
	} {
		if x.got != x.want {
			t.Error(i, x.got, x.want)
		}
	}
	for i, s := range []api.State{{Tick: 3}, state(3, api.Agent{V: -1}), state(3, api.Agent{S: -1}), state(3, api.Agent{V: api.MaxTick + 1}), state(3, api.Agent{S: api.MaxTick + 1}), state(3, api.Agent{S: low}), state(3, api.Agent{V: low}), state(3, api.Agent{S: far, V: far})} {
		if a, b := world.Speed(s, 5), world.Fix(s, 5); a != (api.Mark{}) || b != (api.Mark{}) {
			t.Error(i, a, b)
		}
	}
}

// P4.13
func TestMarksContain(t *testing.T) {
	d := &dice{53}
	for range 20000 {
		a := api.Agent{S: d.pick(0, d.roll(0, 900), d.roll(0, api.MaxTick)), V: d.pick(0, d.roll(0, 20), d.roll(0, 2000))}
		n := d.noise(1)[0]
		v, s := world.Speed(state(1, a), n), world.Fix(state(1, a), n)
		if v.Lo > a.V || v.Hi < a.V || v.Lo != max(0, v.Hi-6) || v.Hi != a.V+modulo(n, 7) {
			t.Error(a, n, v)
		}
		if s.Lo > a.S || s.Hi < a.S || s.Hi-s.Lo != 400 || s.Hi != a.S+modulo(n, 401) {
			t.Error(a, n, s)
		}
	}
}
