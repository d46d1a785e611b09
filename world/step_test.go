package world_test

import (
	"reflect"
	"slices"
	"testing"

	"kerbstone/api"
	"kerbstone/world"
)

// sameCrashes reports whether two lists of crashes are equal.
func sameCrashes(a, b []api.Crash) bool {
	return slices.EqualFunc(a, b, func(x, y api.Crash) bool {
		return x.Tick == y.Tick && x.A == y.A && x.B == y.B && x.Lane == y.Lane && x.Zone == y.Zone && slices.Equal(x.Who, y.Who)
	})
}

// laneCrash makes a crash on a lane.
func laneCrash(tick int64, a, b, lane, who int) api.Crash {
	return api.Crash{Tick: tick, A: a, B: b, Lane: lane, Zone: -1, Who: []int{who}}
}

// zoneCrash makes a crash in a zone.
func zoneCrash(tick int64, a, b, zone int, who ...int) api.Crash {
	return api.Crash{Tick: tick, A: a, B: b, Lane: -1, Zone: zone, Who: who}
}

// P4.4
func TestStepExamples(t *testing.T) {
	s, e := world.New(cross(), []api.Agent{agent(10000, 1000, 0), agent(46000, 1000, 1)})
	if e != api.OK {
		t.Fatal(e)
	}
	to, crashes, e := world.Step(cross(), s, []int64{50, -90})
	if e != api.OK || len(crashes) > 0 || !world.Same(to, state(1, agent(11030, 1030, 0), agent(46910, 910, 1))) {
		t.Error(to, crashes, e)
	}
	// Where there is no acceleration, it is 0; what is too much is not used.
	to, _, _ = world.Step(cross(), s, []int64{-20})
	if !world.Same(to, state(1, agent(10980, 980, 0), agent(47000, 1000, 1))) {
		t.Error(to)
	}
	to, _, _ = world.Step(cross(), s, []int64{1, 2, 3, 4, 5, 6, 7, 8, 9, 10})
	if !world.Same(to, state(1, agent(11001, 1001, 0), agent(47002, 1002, 1))) {
		t.Error(to)
	}
}

// P4.4
func TestStepErrors(t *testing.T) {
	zero := func(i, k int, m api.Map, s api.State, want api.Errno) {
		t.Helper()
		to, crashes, e := world.Step(m, s, []int64{1, 2})
		if e != want || !reflect.DeepEqual(to, api.State{}) || len(crashes) > 0 {
			t.Error(i, k, e, want, to)
		}
	}
	for i, place := range flaws() {
		for k, f := range place {
			m, s := fork(), full()
			f.make(&m, &s)
			zero(i, k, m, s, f.want)
		}
	}
	zero(-1, 0, cross(), state(api.MaxTick, agent(5000, 0, 0)), api.ErrRange)
	zero(-1, 1, cross(), state(api.MaxTick), api.ErrShort)
	if to, _, e := world.Step(cross(), state(api.MaxTick-1, agent(5000, 0, 0)), nil); e != api.OK || to.Tick != api.MaxTick {
		t.Error(to, e)
	}
}

// P4.4: who appears, and who leaves.
func TestStepOfAgentsThatCome(t *testing.T) {
	m := cross()
	s := state(3, agent(50000, 0, 0), with(agent(0, 700, 1), func(a *api.Agent) { a.Begin = 5 }), agent(103500, 800, 1))
	for tick, want := range []api.State{
		state(4, s.Agents[0], s.Agents[1], with(agent(104300, 800, 1), func(a *api.Agent) { a.Gone = true })),
		state(5, s.Agents[0], s.Agents[1], with(agent(104300, 800, 1), func(a *api.Agent) { a.Gone = true })),
		state(6, s.Agents[0], with(agent(710, 710, 1), func(a *api.Agent) { a.Begin = 5 }), with(agent(104300, 800, 1), func(a *api.Agent) { a.Gone = true })),
	} {
		if world.There(s, 1) != (tick == 2) || world.There(s, 2) != (tick == 0) {
			t.Error(tick, "There")
		}
		to, _, e := world.Step(m, s, []int64{0, 10, 0})
		want.In = []api.Stay{{Agent: 0, Zone: 0, Since: 3, Rank: 1}}
		if e != api.OK || !world.Same(to, want) {
			t.Error(tick, to, want, e)
		}
		s = to
	}
}

// P4.4
func TestLaneCrashes(t *testing.T) {
	at := func(s, v int64, route ...int) api.Agent { return agent(s, v, route...) }
	short := func(a api.Agent) api.Agent { return with(a, func(a *api.Agent) { a.Len = 300 }) }
	for i, x := range []struct {
		m    api.Map
		l    []api.Agent
		want []api.Crash
	}{
		{cross(), []api.Agent{at(10000, 1000, 0), at(15000, 0, 0)}, []api.Crash{laneCrash(7, 0, 1, 0, 0)}},
		{cross(), []api.Agent{at(10000, 999, 0), at(15000, 0, 0)}, nil},
		{cross(), []api.Agent{at(15000, 0, 0), at(10000, 1000, 0)}, []api.Crash{laneCrash(7, 0, 1, 0, 1)}},
		{cross(), []api.Agent{at(10000, 1000, 0), at(14900, 100, 0)}, []api.Crash{laneCrash(7, 0, 1, 0, 0)}},
		{cross(), []api.Agent{at(10000, 1000, 0), at(14900, 101, 0)}, nil},
		{cross(), []api.Agent{at(10000, 1000, 0), at(15000, 0, 1)}, nil},
		// With equal fronts the greater number is behind.
		{cross(), []api.Agent{at(10000, 0, 0), at(10000, 0, 0)}, []api.Crash{laneCrash(7, 0, 1, 0, 1)}},
		{cross(), []api.Agent{at(10000, 500, 0), at(10001, 0, 0)}, []api.Crash{laneCrash(7, 0, 1, 0, 0)}},
		{cross(), []api.Agent{at(10000, 0, 0), at(9999, 500, 0)}, []api.Crash{laneCrash(7, 0, 1, 0, 1)}},
		// The length of the one ahead counts.
		{cross(), []api.Agent{at(10000, 1000, 0), short(at(11300, 0, 0))}, []api.Crash{laneCrash(7, 0, 1, 0, 0)}},
		{cross(), []api.Agent{at(10000, 1000, 0), short(at(11301, 0, 0))}, nil},
		{cross(), []api.Agent{short(at(10000, 1000, 0)), at(15000, 0, 0)}, []api.Crash{laneCrash(7, 0, 1, 0, 0)}},
		// Who passes over somebody in a tick has crashed, too.
		{cross(), []api.Agent{at(10000, 2000, 0), short(at(10500, 0, 0))}, []api.Crash{laneCrash(7, 0, 1, 0, 0)}},
		// Three of them.
		{cross(), []api.Agent{at(10000, 500, 0), at(14000, 0, 0), at(12000, 0, 0)}, []api.Crash{laneCrash(7, 0, 1, 0, 0), laneCrash(7, 0, 2, 0, 0), laneCrash(7, 1, 2, 0, 2)}},
		// The fronts have to be on the lane after the tick.
		{fork(), []api.Agent{at(19000, 1000, 0, 2), at(15200, 0, 1, 2)}, []api.Crash{laneCrash(7, 0, 1, 2, 0), zoneCrash(7, 0, 1, 0, 1)}},
		{fork(), []api.Agent{at(19000, 999, 0, 2), at(15200, 0, 1, 2)}, []api.Crash{zoneCrash(7, 0, 1, 0, 1)}},
		{fork(), []api.Agent{at(20100, 0, 0, 2), at(14000, 1000, 1, 2)}, []api.Crash{laneCrash(7, 0, 1, 2, 1), zoneCrash(7, 0, 1, 0, 1)}},
		{fork(), []api.Agent{at(20100, 0, 0, 2), at(14000, 999, 1, 2)}, []api.Crash{zoneCrash(7, 0, 1, 0, 1)}},
		{fork(), []api.Agent{short(at(19990, 0, 0, 2)), at(14000, 2000, 1, 2)}, []api.Crash{zoneCrash(7, 0, 1, 0, 1)}},
		{fork(), []api.Agent{at(19000, 1000, 0, 2), at(14500, 500, 1, 2)}, []api.Crash{laneCrash(7, 0, 1, 2, 0), zoneCrash(7, 0, 1, 0, 1)}},
		{fork(), []api.Agent{at(19000, 1000, 0, 2), at(14500, 499, 1, 2)}, []api.Crash{zoneCrash(7, 0, 1, 0, 1)}},
		// The rear of the one behind has to be on the lane before the tick, and
		// that of the one ahead after it; the roads 3 and 4 go apart.
		{fork(), []api.Agent{short(at(50300, 0, 0, 2, 3)), short(at(45300, 0, 1, 2, 4))}, []api.Crash{laneCrash(7, 0, 1, 2, 1)}},
		{fork(), []api.Agent{short(at(50301, 0, 0, 2, 3)), short(at(45301, 0, 1, 2, 4))}, nil},
		{fork(), []api.Agent{short(at(50300, 0, 0, 2, 3)), short(at(45301, 0, 1, 2, 4))}, nil},
		{fork(), []api.Agent{short(at(50301, 0, 0, 2, 3)), short(at(45300, 0, 1, 2, 4))}, nil},
		{fork(), []api.Agent{short(at(50300, 1, 0, 2, 3)), short(at(45300, 0, 1, 2, 4))}, nil},
		{fork(), []api.Agent{short(at(50299, 1, 0, 2, 3)), short(at(45299, 0, 1, 2, 4))}, []api.Crash{laneCrash(7, 0, 1, 2, 1)}},
		{fork(), []api.Agent{short(at(50301, 0, 0, 2, 3)), short(at(45300, 1, 1, 2, 4))}, nil},
		{fork(), []api.Agent{short(at(50300, 0, 0, 2, 3)), short(at(45300, 1, 1, 2, 4))}, []api.Crash{laneCrash(7, 0, 1, 2, 1)}},
		{fork(), []api.Agent{short(at(50299, 0, 0, 2, 3)), short(at(45300, 1, 1, 2, 4))}, nil},
		{fork(), []api.Agent{at(53000, 0, 0, 2, 3), at(46000, 2000, 1, 2, 4)}, []api.Crash{laneCrash(7, 0, 1, 2, 1)}},
		{fork(), []api.Agent{at(54000, 0, 0, 2, 3), at(45000, 0, 1, 2, 4)}, []api.Crash{laneCrash(7, 0, 1, 2, 1)}},
		{fork(), []api.Agent{at(54001, 0, 0, 2, 3), at(45000, 0, 1, 2, 4)}, nil},
		// Of several lanes the least number counts.
		{fork(), []api.Agent{at(50500, 0, 0, 2, 3), at(53000, 0, 0, 2, 3)}, []api.Crash{laneCrash(7, 0, 1, 2, 0)}},
		{fork(), []api.Agent{at(50500, 0, 0, 2, 3), at(47000, 0, 1, 2, 3)}, []api.Crash{laneCrash(7, 0, 1, 2, 0)}},
		{fork(), []api.Agent{at(54001, 0, 0, 2, 3), at(55000, 0, 0, 2, 3)}, []api.Crash{laneCrash(7, 0, 1, 3, 0)}},
		{fork(), []api.Agent{at(21000, 0, 0, 2, 3), at(23000, 0, 0, 2, 4)}, []api.Crash{laneCrash(7, 0, 1, 0, 0)}},
		// Who is not there before the tick does not crash in it.
		{cross(), []api.Agent{at(50, 0, 0), with(at(0, 100, 0), func(a *api.Agent) { a.Begin = 8 })}, nil},
		{cross(), []api.Agent{at(50, 0, 0), with(at(0, 100, 0), func(a *api.Agent) { a.Begin = 7 })}, []api.Crash{laneCrash(7, 0, 1, 0, 1)}},
		{cross(), []api.Agent{at(103000, 2000, 0), at(104000, 0, 0)}, []api.Crash{laneCrash(7, 0, 1, 0, 0)}},
		{cross(), []api.Agent{at(103000, 2000, 0), at(104000, 1, 0)}, nil},
		{cross(), []api.Agent{at(103000, 2000, 0), with(at(104001, 0, 0), func(a *api.Agent) { a.Gone = true })}, nil},
		{cross(), []api.Agent{at(103000, 2000, 0), at(103500, 500, 0)}, []api.Crash{laneCrash(7, 0, 1, 0, 0)}},
		{cross(), []api.Agent{at(103000, 2000, 0), at(103500, 501, 0)}, nil},
	} {
		_, crashes, e := world.Step(x.m, state(7, x.l...), nil)
		if e != api.OK || !sameCrashes(crashes, x.want) {
			t.Error(i, e, crashes)
		}
	}
}

// P4.4
func TestZoneCrashes(t *testing.T) {
	stay := func(agent int, since int64, rank int) api.Stay {
		return api.Stay{Agent: agent, Since: since, Rank: rank}
	}
	a, b := agent(47500, 1000, 0), agent(47500, 1000, 1)
	for i, x := range []struct {
		m    api.Map
		tick int64
		l    []api.Agent
		in   []api.Stay
		want []api.Crash
		then []api.Stay
	}{
		{cross(), 0, []api.Agent{a, b}, nil, []api.Crash{zoneCrash(0, 0, 1, 0, 1)}, []api.Stay{stay(0, 0, 1), stay(1, 0, 0)}},
		{cross(), 9, []api.Agent{b, a}, nil, []api.Crash{zoneCrash(9, 0, 1, 0, 0)}, []api.Stay{stay(0, 9, 0), stay(1, 9, 1)}},
		{cross(), 9, []api.Agent{a, agent(47000, 999, 1)}, nil, nil, []api.Stay{stay(0, 9, 1)}},
		{cross(), 9, []api.Agent{a, agent(47000, 1000, 1)}, nil, []api.Crash{zoneCrash(9, 0, 1, 0, 1)}, []api.Stay{stay(0, 9, 1), stay(1, 9, 0)}},
		{cross(), 9, []api.Agent{agent(56000, 1000, 0), b}, nil, []api.Crash{zoneCrash(9, 0, 1, 0, 1)}, []api.Stay{stay(0, 9, 1), stay(1, 9, 0)}},
		{cross(), 9, []api.Agent{agent(56001, 1000, 0), b}, nil, nil, []api.Stay{stay(1, 9, 0)}},
		// Agents with one entry do not crash in a zone.
		{cross(), 9, []api.Agent{a, agent(52000, 1000, 0)}, nil, nil, []api.Stay{stay(0, 9, 1), stay(1, 9, 1)}},
		// A stay that was there goes on, whatever it says.
		{cross(), 9, []api.Agent{a, b}, []api.Stay{stay(0, 3, 0), stay(1, 4, 0)}, []api.Crash{zoneCrash(9, 0, 1, 0, 1)}, []api.Stay{stay(0, 3, 0), stay(1, 4, 0)}},
		{cross(), 9, []api.Agent{a, b}, []api.Stay{stay(0, 5, 0), stay(1, 4, 0)}, []api.Crash{zoneCrash(9, 0, 1, 0, 0)}, []api.Stay{stay(0, 5, 0), stay(1, 4, 0)}},
		{cross(), 9, []api.Agent{a, b}, []api.Stay{stay(0, 4, 0), stay(1, 4, 0)}, []api.Crash{zoneCrash(9, 0, 1, 0, 0, 1)}, []api.Stay{stay(0, 4, 0), stay(1, 4, 0)}},
		{cross(), 9, []api.Agent{a, b}, []api.Stay{stay(1, 4, 1)}, []api.Crash{zoneCrash(9, 0, 1, 0, 0)}, []api.Stay{stay(0, 9, 1), stay(1, 4, 1)}},
		{cross(), 9, []api.Agent{a, b}, []api.Stay{stay(0, 9, 7), stay(1, 2, 6)}, []api.Crash{zoneCrash(9, 0, 1, 0, 1)}, []api.Stay{stay(0, 9, 7), stay(1, 2, 6)}},
		// One that is not there any more ends, and so begins again.
		{cross(), 9, []api.Agent{agent(10000, 0, 0), agent(56001, 0, 1)}, []api.Stay{stay(0, 3, 1), stay(1, 4, 1)}, nil, nil},
		// With a signal the green ones have the greater rank.
		{lights(), 9, []api.Agent{a, b}, nil, []api.Crash{zoneCrash(9, 0, 1, 0, 1)}, []api.Stay{stay(0, 9, 2), stay(1, 9, 0)}},
		{lights(), 10, []api.Agent{a, b}, nil, []api.Crash{zoneCrash(10, 0, 1, 0, 0, 1)}, []api.Stay{stay(0, 10, 0), stay(1, 10, 0)}},
		{lights(), 14, []api.Agent{a, b}, []api.Stay{stay(0, 9, 2)}, []api.Crash{zoneCrash(14, 0, 1, 0, 1)}, []api.Stay{stay(0, 9, 2), stay(1, 14, 0)}},
		{lights(), 15, []api.Agent{a, b}, []api.Stay{stay(0, 9, 2)}, []api.Crash{zoneCrash(15, 0, 1, 0, 1)}, []api.Stay{stay(0, 9, 2), stay(1, 15, 2)}},
		{lights(), 15, []api.Agent{a, b}, []api.Stay{stay(0, 10, 0)}, []api.Crash{zoneCrash(15, 0, 1, 0, 0)}, []api.Stay{stay(0, 10, 0), stay(1, 15, 2)}},
		// Who is not there does not crash.
		{cross(), 9, []api.Agent{a, with(agent(0, 0, 1), func(a *api.Agent) { a.Begin = 10 })}, []api.Stay{stay(1, 2, 0)}, nil, []api.Stay{stay(0, 9, 1)}},
		// All pairs, and in each pair all zones, behind the crash on a lane.
		{crowd(), 9, []api.Agent{agent(10000, 0, 0), agent(10000, 0, 1), agent(9000, 0, 0)}, nil, []api.Crash{
			zoneCrash(9, 0, 1, 0, 1), zoneCrash(9, 0, 1, 1, 0), laneCrash(9, 0, 2, 0, 2), zoneCrash(9, 1, 2, 0, 1), zoneCrash(9, 1, 2, 1, 2),
		}, []api.Stay{stay(0, 9, 1), {Agent: 0, Zone: 1, Since: 9}, stay(1, 9, 0), {Agent: 1, Zone: 1, Since: 9, Rank: 5}, stay(2, 9, 1), {Agent: 2, Zone: 1, Since: 9}}},
	} {
		s := state(x.tick, x.l...)
		s.In = x.in
		to, crashes, e := world.Step(x.m, s, nil)
		if e != api.OK || !sameCrashes(crashes, x.want) || !slices.Equal(to.In, x.then) {
			t.Error(i, e, crashes, to.In)
		}
	}
}

// crowd is the cross with two zones everywhere.
func crowd() api.Map {
	m := cross()
	m.Zones = []api.Zone{zone(0, part(0, 0, 100000, 1), part(1, 0, 100000, 0)), zone(0, part(0, 0, 100000, 0), part(1, 0, 100000, 5))}
	return m
}

// P4.4: who waits at a zone from its source on is present in it, and has a
// stay, but does not crash.
func TestStaysOfThoseThatWait(t *testing.T) {
	s := state(2, agent(50000, 0, 0), with(agent(0, 9, 1), func(a *api.Agent) { a.Begin = 4 }))
	for tick := range int64(3) {
		to, crashes, e := world.Step(crowd(), s, nil)
		if e != api.OK || len(to.In) != 4 || to.In[2] != (api.Stay{Agent: 1, Since: 2}) || (len(crashes) > 0) != (tick == 2) {
			t.Error(tick, to.In, crashes, e)
		}
		s = to
	}
}

// P4.4
func TestStepPlain(t *testing.T) {
	d := &dice{41}
	lanes, zones, shared, continued := 0, 0, 0, 0
	for i, x := range stages(t, 42, 1500) {
		s := x.s
		for range 4 {
			acts := d.acts(s)
			if s.Tick == api.MaxTick {
				break
			}
			to, crashes, e := world.Step(x.m, s, acts)
			want, all := stepped(x.m, s, acts)
			if e != api.OK || !world.Same(to, want) || !sameCrashes(crashes, all) {
				t.Fatal(i, e, s, to, want, crashes, all)
			}
			for _, c := range all {
				switch {
				case len(c.Who) > 1:
					shared++
				case c.Zone < 0:
					lanes++
				default:
					zones++
				}
			}
			for _, y := range to.In {
				if y.Since < s.Tick {
					continued++
				}
			}
			s = to
		}
	}
	if min(lanes, zones, shared, continued) < 500 {
		t.Error("too few crashes to show anything:", lanes, zones, shared, continued)
	}
}
