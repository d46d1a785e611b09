package world_test

import (
	"reflect"
	"slices"
	"testing"

	"kerbstone/api"
	"kerbstone/roads"
	"kerbstone/world"
)

// sameAgent reports whether two agents are equal in everything.
func sameAgent(a, b api.Agent) bool {
	return world.Same(state(0, a), state(0, b))
}

// P4.3
func TestMoveExamples(t *testing.T) {
	for i, x := range []struct {
		m    api.Map
		a    api.Agent
		tick int64
		act  int64
		s, v int64
	}{
		{cross(), agent(10000, 1000, 0), 0, 50, 11030, 1030},
		{cross(), agent(46000, 1000, 1), 0, -90, 46910, 910},
		{cross(), agent(46000, 1000, 1), 0, -91, 46910, 910},
		{cross(), agent(46000, 1000, 1), 0, 29, 47029, 1029},
		{cross(), agent(46000, 1000, 1), 0, far, 47030, 1030},
		{cross(), agent(46000, 1000, 1), 0, low, 46910, 910},
		{cross(), agent(46000, 50, 1), 0, -90, 46000, 0},
		{cross(), agent(46000, 1990, 1), 0, 30, 48000, 2000},
		{cross(), agent(46000, 2000, 1), 0, 1, 48000, 2000},
		{fork(), agent(5000, 990, 5, 6), 0, 30, 6000, 1000},
		{fork(), agent(5000, 500, 5, 6), 0, 30, 5520, 520},
		{fork(), agent(5000, 500, 5, 6), 0, -70, 5440, 440},
		{fork(), agent(5000, 250, 7), 0, 30, 5280, 280},
		{fork(), agent(5000, 0, 7), 0, 200, 5100, 100},
		{fork(), agent(5000, 250, 7), 0, 200, 5300, 300},
		{fork(), agent(5000, 250, 7), 0, -300, 5000, 0},
		// The line of lane 0 is at 48000; the stop of 1000 takes 5060, of 1001 5071.
		{lights(), obeying(agent(10000, 1000, 0)), 10, 30, 11030, 1030},
		{lights(), obeying(agent(41800, 1000, 0)), 9, 30, 42830, 1030},
		{lights(), agent(41800, 1000, 0), 10, 30, 42830, 1030},
		{lights(), obeying(agent(41938, 1000, 0)), 10, 30, 42938, 1000},
		{lights(), obeying(agent(41939, 1000, 0)), 10, 30, 42939, 1000},
		{lights(), obeying(agent(41940, 1000, 0)), 10, 30, 42939, 999},
		{lights(), obeying(agent(41939, 1000, 0)), 10, 0, 42939, 1000},
		{lights(), obeying(agent(41939, 1000, 0)), 10, -40, 42899, 960},
		{lights(), obeying(agent(42939, 1000, 0)), 10, 30, 43849, 910},
		// Who cannot stop any more goes on.
		{lights(), obeying(agent(42940, 1000, 0)), 10, 30, 43970, 1030},
		{lights(), obeying(agent(42940, 1000, 0)), 10, -90, 43850, 910},
		{lights(), obeying(agent(47999, 0, 0)), 10, 30, 47999, 0},
		{lights(), obeying(agent(48000, 0, 0)), 10, 30, 48030, 30},
		{lights(), obeying(agent(50000, 1000, 0)), 10, 30, 51030, 1030},
		// Only the lines of its own lane are seen.
		{fork(), obeying(agent(15000-500, 0, 5, 6)), 0, 30, 14520, 20},
		{fork(), obeying(agent(14990, 80, 5, 6)), 0, 30, 15090, 100},
		{fork(), obeying(agent(13990, 0, 5, 6)), 0, 30, 13999, 9},
		{fork(), obeying(agent(13990, 0, 5, 6)), 4, 30, 14010, 20},
		{fork(), obeying(agent(67999, 0, 0, 2, 3)), 1, 30, 67999, 0},
		{fork(), obeying(agent(67999, 0, 0, 2, 3)), 0, 30, 68029, 30},
		// Behind the route there are no lines.
		{lights(), obeying(agent(101000, 500, 0)), 10, 30, 101530, 530},
	} {
		want := x.a
		want.S, want.V = x.s, x.v
		if got := world.Move(x.m, state(x.tick, agent(0, 0, 0), x.a), 1, x.act); !sameAgent(got, want) {
			t.Error(i, got, want)
		}
	}
}

// P4.3
func TestMoveOffTheRoute(t *testing.T) {
	for i, x := range []struct {
		s, v, act, then int64
		gone            bool
	}{{103900, 100, 0, 104000, false}, {103900, 101, 0, 104001, true}, {103000, 2000, 0, 105000, true}, {104000, 30, -29, 104001, true}, {104000, 30, -30, 104000, false}, {100000, 2000, 30, 102000, false}} {
		got := world.Move(cross(), state(3, agent(x.s, x.v, 0)), 0, x.act)
		want := agent(x.then, x.then-x.s, 0)
		if want.Gone = x.gone; !sameAgent(got, want) {
			t.Error(i, got)
		}
	}
}

// P4.3: those that are moved by nothing.
func TestMoveOfNobody(t *testing.T) {
	m := cross()
	late := with(agent(0, 700, 0), func(a *api.Agent) { a.Begin = 6 })
	gone := with(agent(105000, 700, 0), func(a *api.Agent) { a.Gone = true })
	s := state(5, agent(50000, 10, 1), late, gone)
	for i := 1; i < 3; i++ {
		if a := world.Move(m, s, i, 30); !sameAgent(a, s.Agents[i]) {
			t.Error(i, a)
		}
	}
	for _, i := range []int{-1, 3, 8, far, low} {
		if a := world.Move(m, s, i, 30); !reflect.DeepEqual(a, api.Agent{}) {
			t.Error(i, a)
		}
	}
	if a := world.Move(m, api.State{}, 0, 30); !reflect.DeepEqual(a, api.Agent{}) {
		t.Error(a)
	}
	s.Tick = 6
	if a := world.Move(m, s, 1, 30); a.S != 730 || a.V != 730 {
		t.Error(a)
	}
	// Of a state that is not valid all agents stay as they are.
	for i, place := range flaws() {
		for k, f := range place {
			m, s := fork(), full()
			f.make(&m, &s)
			for n, a := range s.Agents {
				if got := world.Move(m, s, n, 30); !sameAgent(got, a) {
					t.Error(i, k, n, got, a)
				}
			}
		}
	}
}

// P4.3
func TestPresentExamples(t *testing.T) {
	for i, x := range []struct {
		m             api.Map
		before, after api.Agent
		zone          int
		want          bool
	}{
		{cross(), agent(47000, 0, 0), agent(48000, 0, 0), 0, true},
		{cross(), agent(47000, 0, 0), agent(47999, 0, 0), 0, false},
		{cross(), agent(56000, 0, 0), agent(57000, 0, 0), 0, true},
		{cross(), agent(56001, 0, 0), agent(57000, 0, 0), 0, false},
		{cross(), with(agent(47000, 0, 0), func(a *api.Agent) { a.Len = 300 }), with(agent(53000, 0, 0), func(a *api.Agent) { a.Len = 300 }), 0, true},
		{cross(), agent(50000, 0, 0), agent(50000, 0, 0), 1, false},
		{cross(), agent(50000, 0, 0), agent(50000, 0, 0), -1, false},
		{cross(), agent(50000, 0, 0), agent(50000, 0, 0), far, false},
		{cross(), agent(50000, 0, 0), agent(50000, 0, 0), low, false},
		{fork(), agent(14000, 0, 0, 2), agent(15000, 0, 0, 2), 0, true},
		{fork(), agent(28000, 0, 0, 2), agent(29000, 0, 0, 2), 0, true},
		{fork(), agent(28001, 0, 0, 2), agent(29000, 0, 0, 2), 0, false},
		{fork(), agent(20000, 0, 5, 6), agent(20000, 0, 5, 6), 1, true},
		{fork(), agent(20000, 0, 5, 6), agent(20000, 0, 5, 6), 0, false},
		{fork(), agent(20000, 0, 5, 6), agent(20000, 0, 5, 6), 2, false},
		{fork(), agent(13000, 0, 5), agent(14000, 0, 5), 1, true},
		// The route is that of before, and so is the length.
		{cross(), agent(47000, 0, 0), agent(48000, 0, 1), 0, true},
		{fork(), agent(14000, 0, 0, 2), agent(15000, 0, 7), 0, true},
		{cross(), agent(56001, 0, 0), with(agent(57000, 0, 0), func(a *api.Agent) { a.Len = 20000 }), 0, false},
		// Who goes back was nowhere if even its rear was ahead.
		{cross(), agent(56000, 0, 0), agent(52000, 0, 0), 0, true},
		{cross(), agent(56000, 0, 0), agent(51999, 0, 0), 0, false},
		{cross(), agent(55000, 0, 0), agent(49000, 0, 0), 0, false},
		{cross(), agent(55000, 0, 0), agent(51000, 0, 0), 0, true},
		{cross(), agent(50000, 0, 0), agent(0, 0, 0), 0, false},
		{cross(), agent(0, 0, 0), agent(api.MaxTick, 0, 0), 0, true},
		// It does not matter whether they are there.
		{cross(), with(agent(50000, 0, 0), func(a *api.Agent) { a.Begin, a.Gone, a.V = far, true, low }), agent(50000, 0, 0), 0, true},
		// Nothing can be said of these.
		{cross(), agent(-1, 0, 0), agent(50000, 0, 0), 0, false},
		{cross(), agent(50000, 0, 0), agent(-1, 0, 0), 0, false},
		{cross(), agent(50000, 0, 0), agent(api.MaxTick+1, 0, 0), 0, false},
		{cross(), agent(50000, 0), agent(50000, 0, 0), 0, false},
		{cross(), agent(50000, 0, 0), agent(50000, 0, 2), 0, false},
		{cross(), with(agent(50000, 0, 0), func(a *api.Agent) { a.Len = -1 }), agent(50000, 0, 0), 0, false},
		{cross(), agent(50000, 0, 0), with(agent(50000, 0, 0), func(a *api.Agent) { a.Len = far }), 0, false},
		{api.Map{}, agent(50000, 0, 0), agent(50000, 0, 0), 0, false},
	} {
		if world.Present(x.m, x.before, x.after, x.zone) != x.want {
			t.Error(i, !x.want)
		}
	}
}

// P4.3
func TestRankExamples(t *testing.T) {
	for i, x := range []struct {
		m    api.Map
		a    api.Agent
		zone int
		tick int64
		want int
	}{
		{cross(), agent(0, 0, 0), 0, 0, 1}, {cross(), agent(0, 0, 1), 0, 0, 0}, {cross(), agent(0, 0, 0), 0, low, 1},
		{fork(), agent(0, 0, 0, 2), 0, 0, 2}, {fork(), agent(0, 0, 1, 2), 0, 0, 1}, {fork(), agent(0, 0, 1), 0, 0, 1},
		{fork(), agent(0, 0, 7), 2, 0, 100}, {fork(), agent(0, 0, 0, 2, 3), 2, 0, 7}, {fork(), agent(0, 0, 0, 2), 2, 0, 0}, {fork(), agent(0, 0, 5, 6), 2, 0, 0},
		{lights(), agent(0, 0, 0), 0, 0, 2}, {lights(), agent(0, 0, 0), 0, 9, 2}, {lights(), agent(0, 0, 0), 0, 10, 0}, {lights(), agent(0, 0, 0), 0, 25, 2}, {lights(), agent(0, 0, 0), 0, -1, 0}, {lights(), agent(0, 0, 0), 0, low, 0},
		{lights(), agent(0, 0, 1), 0, 14, 0}, {lights(), agent(0, 0, 1), 0, 15, 2}, {lights(), agent(0, 0, 1), 0, 0, 0},
		{fork(), agent(0, 0, 5, 6), 1, 3, 2}, {fork(), agent(0, 0, 5, 6), 1, 0, 0}, {fork(), agent(0, 0, 0, 2, 3), 1, 0, 2}, {fork(), agent(0, 0, 0, 2), 1, 0, 0},
		{cross(), agent(0, 0, 0), 1, 0, 0}, {cross(), agent(0, 0, 0), -1, 0, 0}, {cross(), agent(0, 0, 0), far, 0, 0}, {cross(), agent(0, 0, 0), low, 0, 0},
		{cross(), agent(-1, 0, 0), 0, 0, 0}, {cross(), agent(api.MaxTick, 0, 0), 0, 0, 1}, {cross(), agent(api.MaxTick+1, 0, 0), 0, 0, 0}, {cross(), agent(5, 0), 0, 0, 0}, {cross(), agent(5, 0, 0, 1), 0, 0, 0},
		{cross(), with(agent(5, 0, 0), func(a *api.Agent) { a.Len = -1 }), 0, 0, 0}, {cross(), with(agent(5, 0, 0), func(a *api.Agent) { a.Gone, a.Begin = true, far }), 0, 0, 1},
		{api.Map{}, agent(0, 0, 0), 0, 0, 0},
	} {
		if n := world.Rank(x.m, x.a, x.zone, x.tick); n != x.want {
			t.Error(i, n)
		}
	}
}

// P4.3
func TestMovePlain(t *testing.T) {
	d := &dice{31}
	held, presences, ranks := 0, 0, 0
	for i, x := range stages(t, 32, 3000) {
		for k, a := range x.s.Agents {
			act := d.pick(0, 30, 30, 100, -90, far, far, low, d.roll(-100, 40), d.roll(-300, 100))
			want := a
			if there(a, x.s.Tick) {
				want = moved(x.m, a, x.s.Tick, act)
			}
			got := world.Move(x.m, x.s, k, act)
			if !sameAgent(got, want) {
				t.Fatal(i, k, act, got, want)
			}
			a.Obey = false
			if there(a, x.s.Tick) && moved(x.m, a, x.s.Tick, act).V > got.V {
				held++
			}
			for zone := range x.m.Zones {
				is := present(x.m, a, got, zone)
				if world.Present(x.m, a, got, zone) != is {
					t.Error(i, k, zone, !is)
				}
				if is {
					presences++
				}
				n := rank(x.m, a.Route, zone, x.s.Tick)
				if world.Rank(x.m, a, zone, x.s.Tick) != n {
					t.Error(i, k, zone, n)
				}
				ranks += n
			}
		}
	}
	if held < 100 || presences < 1000 || ranks < 1000 {
		t.Error("too few cases to show anything:", held, presences, ranks)
	}
}

// P4.3: red lines anywhere on a lane, also several of them.
func TestObeyPlain(t *testing.T) {
	d := &dice{33}
	several := 0
	for i := range 4000 {
		m := lights()
		m.Signals = []api.Signal{{Phases: []api.Phase{phase(1)}}}
		m.Zones = nil
		a := obeying(agent(d.roll(0, 50000), d.pick(0, d.roll(0, 2000), d.roll(0, 100)), 0))
		halt := a.S + stop(a.V, 90)
		for range d.roll(1, 4) {
			from := halt + d.pick(-1, 0, 1, d.roll(-100, 40), d.roll(0, 3000), d.roll(0, 20000), -stop(a.V, 90), 1-stop(a.V, 90))
			if from >= 0 {
				m.Zones = append(m.Zones, zone(1, part(0, from, from+1, 0), part(1, 0, 1, 0)))
			}
		}
		act := d.pick(30, 30, 0, far, d.roll(-90, 30))
		if roads.Check(m) != api.OK {
			t.Fatal(m)
		}
		if got, want := world.Move(m, state(0, a), 0, act), moved(m, a, 0, act); !sameAgent(got, want) {
			t.Error(i, got, want, act)
		}
		if len(slices.DeleteFunc(roads.Red(m, 0, 0), func(line int64) bool { return line <= halt })) > 1 {
			several++
		}
	}
	if several < 1000 {
		t.Error("too few lines to show anything:", several)
	}
}
