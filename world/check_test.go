package world_test

import (
	"slices"
	"testing"

	"kerbstone/api"
	"kerbstone/roads"
	"kerbstone/world"
)

// full is a valid state of the fork with as many agents as there may be, and
// with numbers as small and as great as they may be.
func full() api.State {
	return api.State{
		Tick: 50,
		Agents: []api.Agent{
			{Route: []int{0, 2, 3}, S: 92001, V: 2000, Len: 20000, Obey: true},
			{Route: []int{1, 2, 4}, S: 0, V: 7, Len: 300, Begin: 51},
			{Route: []int{0}, S: 42000, V: 0, Len: 20000, Gone: true},
			{Route: []int{5, 6}, S: 40000 + 4000, V: 1000, Len: 4000, Begin: 50},
			{Route: []int{7}, S: 6301, V: 300, Len: 300, Gone: true, Begin: 3},
			{Route: []int{1}, S: 15001, V: 2000, Len: 15000},
			{Route: []int{1, 2}, S: 0, V: 2000, Len: 15000, Begin: api.MaxTick},
			{Route: []int{5}, S: 0, V: 1, Len: 301, Begin: 50, Obey: true},
		},
		In: []api.Stay{{Agent: 0, Zone: 1, Since: 50, Rank: 100}, {Agent: 0, Zone: 2}, {Agent: 1, Zone: 0, Rank: 3}, {Agent: 2, Zone: 2}, {Agent: 7, Zone: 0, Since: 1}},
	}
}

// flaw is a change that makes the full state of the fork invalid, and the
// error.
type flaw struct {
	want api.Errno
	make func(m *api.Map, s *api.State)
}

// flaws returns flaws. Those of one list are found at one place of the check;
// the lists are in the order in which they are found.
func flaws() [][]flaw {
	all := [][]flaw{
		{{api.ErrShort, func(m *api.Map, s *api.State) { m.Lanes = nil }}, {api.ErrRange, func(m *api.Map, s *api.State) { m.Version = -1 }}, {api.ErrKind, func(m *api.Map, s *api.State) { m.Lanes[2].Kind = 4 }}},
		put(api.ErrRange, func(s *api.State) *int64 { return &s.Tick }, -1, api.MaxTick+1, low, far),
		slices.Concat(
			put(api.ErrShort, func(s *api.State) *[]api.Agent { return &s.Agents }, nil, []api.Agent{}),
			put(api.ErrFull, func(s *api.State) *[]api.Agent { return &s.Agents }, append(full().Agents, agent(5000, 0, 0)), make([]api.Agent, 100)),
		),
	}
	for i := range full().Agents {
		all = append(all, agentFlaws(i)...)
	}
	for i := range full().In {
		at := func(s *api.State) *api.Stay { return &s.In[i] }
		all = append(all, slices.Concat(
			put(api.ErrOrder, func(s *api.State) *int { return &at(s).Agent }, -1, 8, far, low),
			put(api.ErrOrder, func(s *api.State) *int { return &at(s).Zone }, -1, 3, far, low),
		))
		if i > 0 {
			all = append(all, []flaw{
				{api.ErrOrder, func(m *api.Map, s *api.State) { s.In[i] = s.In[i-1] }},
				{api.ErrOrder, func(m *api.Map, s *api.State) { s.In[i], s.In[i-1] = s.In[i-1], s.In[i] }},
				{api.ErrOrder, func(m *api.Map, s *api.State) {
					s.In[i] = api.Stay{Agent: s.In[i-1].Agent, Zone: s.In[i-1].Zone, Since: 3, Rank: 4}
				}},
			})
		}
	}
	for i := range full().In {
		at := func(s *api.State) *api.Stay { return &s.In[i] }
		all = append(all, slices.Concat(
			put(api.ErrRange, func(s *api.State) *int64 { return &at(s).Since }, -1, 51, low, far),
			put(api.ErrRange, func(s *api.State) *int { return &at(s).Rank }, -1, 101, low, far),
		))
	}
	return all
}

// put makes flaws with one error: one for each value of a field.
func put[V any](want api.Errno, field func(s *api.State) *V, values ...V) []flaw {
	var all []flaw
	for _, v := range values {
		all = append(all, flaw{want, func(m *api.Map, s *api.State) { *field(s) = v }})
	}
	return all
}

func agentFlaws(i int) [][]flaw {
	a := full().Agents[i]
	at := func(s *api.State) *api.Agent { return &s.Agents[i] }
	m := fork()
	n := roads.RouteLength(m, a.Route)
	most, _, _ := roads.Bounds(m.Lanes[a.Route[0]].Kind)
	state := slices.Concat(
		put(api.ErrState, func(s *api.State) *bool { return &at(s).Gone }, !a.Gone),
		[]flaw{{api.ErrState, func(m *api.Map, s *api.State) { at(s).S, at(s).Begin = 1, 51 }}},
		[]flaw{{api.ErrState, func(m *api.Map, s *api.State) { at(s).S, at(s).Gone = n+at(s).Len, true }}},
		[]flaw{{api.ErrState, func(m *api.Map, s *api.State) { at(s).S, at(s).Gone = n+at(s).Len+1, false }}},
	)
	if i == 0 {
		state = append(state, put(api.ErrState, func(s *api.State) *int64 { return &at(s).Begin }, 1, 50, 51, api.MaxTick)...)
	}
	return [][]flaw{
		put(api.ErrRoute, func(s *api.State) *[]int { return &at(s).Route }, nil, []int{}, []int{2}, []int{0, 1}, []int{-1}, []int{8}, []int{0, 2, 3, 4}, []int{far}, make([]int, 9)),
		slices.Concat(
			put(api.ErrRange, func(s *api.State) *int64 { return &at(s).Len }, 299, 20001, 0, -300, low, far),
			put(api.ErrRange, func(s *api.State) *int64 { return &at(s).Begin }, -1, api.MaxTick+1, low, far),
			put(api.ErrRange, func(s *api.State) *int64 { return &at(s).S }, -1, n+a.Len+2001, low, far),
			put(api.ErrRange, func(s *api.State) *int64 { return &at(s).V }, -1, most+1, low, far),
		),
		state,
	}
}

// P4.1
func TestCheckReasons(t *testing.T) {
	if e := world.Check(fork(), full()); e != api.OK {
		t.Fatal(e)
	}
	for i, place := range flaws() {
		for k, f := range place {
			m, s := fork(), full()
			f.make(&m, &s)
			if e := world.Check(m, s); e != f.want {
				t.Error(i, k, e, f.want)
			}
		}
	}
}

// P4.1, R1: of two flaws the one that is found first counts.
func TestFirstReason(t *testing.T) {
	places := flaws()
	for i, place := range places {
		for n, later := range places[i+1:] {
			for k, f := range place {
				m, s := fork(), full()
				later[k%len(later)].make(&m, &s)
				f.make(&m, &s)
				if e := world.Check(m, s); e != f.want {
					t.Fatal(i, n, k, e, f.want)
				}
			}
		}
	}
}

// P4.1: numbers as great and as small as they may be.
func TestValidStates(t *testing.T) {
	for i, change := range []func(s *api.State){
		func(s *api.State) {},
		func(s *api.State) { s.In = nil },
		func(s *api.State) { s.In = []api.Stay{} },
		func(s *api.State) { s.Tick = api.MaxTick },
		func(s *api.State) { s.Agents, s.In = s.Agents[:1], nil },
		func(s *api.State) { *s = state(0, agent(0, 0, 0)) },
		func(s *api.State) { s.Agents[0].S = 90000 },
		func(s *api.State) { s.Agents[0].S = 90000 + 20000 },
		func(s *api.State) { s.Agents[0].S, s.Agents[0].Gone = 90000+20001, true },
		func(s *api.State) { s.Agents[0].S, s.Agents[0].Gone = 90000+22000, true },
		func(s *api.State) { s.Agents[1].S, s.Agents[1].Begin = 1, 50 },
		func(s *api.State) { s.Agents[7].Begin = 0 },
	} {
		s := full()
		change(&s)
		if e := world.Check(fork(), s); e != api.OK {
			t.Error(i, e)
		}
	}
	if e := world.Check(cross(), state(0, agent(50000, 2000, 0))); e != api.OK {
		t.Error("the limit of a lane is none of an agent", e)
	}
	if e := world.Check(cross(), state(0, agent(50000, 2001, 0))); e != api.ErrRange {
		t.Error(e)
	}
}

// P4.1
func TestNewExamples(t *testing.T) {
	for i, x := range []struct {
		m    api.Map
		l    []api.Agent
		want api.Errno
		in   []api.Stay
	}{
		{cross(), []api.Agent{agent(10000, 1000, 0), agent(46000, 1000, 1)}, api.OK, nil},
		{cross(), nil, api.ErrShort, nil},
		{api.Map{}, nil, api.ErrShort, nil},
		{cross(), []api.Agent{agent(10000, 2001, 0)}, api.ErrRange, nil},
		{cross(), []api.Agent{agent(10000, 0, 0), agent(0, 0, 2)}, api.ErrRoute, nil},
		{cross(), []api.Agent{with(agent(0, 0, 0), func(a *api.Agent) { a.Begin = 1 })}, api.ErrState, nil},
		// An agent may not have left its route.
		{cross(), []api.Agent{agent(10000, 0, 0), agent(104000, 0, 0)}, api.OK, nil},
		{cross(), []api.Agent{agent(10000, 0, 0), with(agent(104001, 0, 0), func(a *api.Agent) { a.Gone = true })}, api.ErrState, nil},
		{cross(), []api.Agent{with(agent(104001, 0, 0), func(a *api.Agent) { a.Gone = true }), agent(5000, 0, 0), agent(5000, 0, 0)}, api.ErrState, nil},
		{cross(), []api.Agent{agent(104001, 0, 0)}, api.ErrState, nil},
		// Bodies may not touch.
		{cross(), []api.Agent{agent(10000, 0, 0), agent(14001, 0, 0)}, api.OK, nil},
		{cross(), []api.Agent{agent(10000, 0, 0), agent(14000, 0, 0)}, api.ErrClash, nil},
		{cross(), []api.Agent{agent(90000, 0, 1), agent(10000, 0, 0), agent(6000, 0, 0)}, api.ErrClash, nil},
		{cross(), []api.Agent{agent(0, 0, 0), agent(0, 0, 0)}, api.ErrClash, nil},
		{cross(), []api.Agent{agent(0, 0, 0), with(agent(0, 0, 0), func(a *api.Agent) { a.Begin = 1 })}, api.OK, nil},
		{fork(), []api.Agent{agent(22000, 0, 0, 2), agent(17000, 0, 1, 2)}, api.ErrClash, nil},
		{fork(), []api.Agent{agent(25000, 0, 0, 2), agent(19000, 0, 1, 2)}, api.ErrClash, nil},
		{fork(), []api.Agent{agent(29000, 0, 0, 2), agent(11000, 0, 1, 2)}, api.OK, nil},
		// Agents with one entry may be in a zone, with different ones not.
		{cross(), []api.Agent{agent(48000, 0, 0)}, api.OK, []api.Stay{{Agent: 0, Zone: 0, Rank: 1}}},
		{cross(), []api.Agent{agent(47999, 0, 0)}, api.OK, nil},
		{cross(), []api.Agent{agent(56000, 0, 1)}, api.OK, []api.Stay{{Agent: 0, Zone: 0, Rank: 0}}},
		{cross(), []api.Agent{agent(56001, 0, 1)}, api.OK, nil},
		{cross(), []api.Agent{agent(56000, 0, 0), agent(51000, 0, 0)}, api.OK, []api.Stay{{Agent: 0, Rank: 1}, {Agent: 1, Rank: 1}}},
		{cross(), []api.Agent{agent(56000, 0, 0), agent(48000, 0, 1)}, api.ErrClash, nil},
		{cross(), []api.Agent{agent(56001, 0, 0), agent(48000, 0, 1)}, api.OK, []api.Stay{{Agent: 1}}},
		{lights(), []api.Agent{agent(50000, 0, 0)}, api.OK, []api.Stay{{Agent: 0, Rank: 2}}},
		{lights(), []api.Agent{agent(50000, 0, 1)}, api.OK, []api.Stay{{Agent: 0, Rank: 0}}},
		{fork(), []api.Agent{agent(19000, 0, 0, 2), agent(10000, 0, 1, 2), agent(71000, 0, 0, 2, 3), agent(2000, 0, 7)}, api.OK, []api.Stay{{Agent: 0, Rank: 2}, {Agent: 2, Zone: 1, Rank: 2}, {Agent: 3, Zone: 2, Rank: 100}}},
		{fork(), []api.Agent{agent(73000, 0, 0, 2, 3), agent(59000, 0, 1, 2, 4)}, api.OK, []api.Stay{{Agent: 0, Zone: 1, Rank: 2}, {Agent: 0, Zone: 2, Rank: 7}}},
	} {
		s, e := world.New(x.m, x.l)
		want := api.State{Agents: x.l, In: x.in}
		if e != api.OK {
			want = api.State{}
		}
		if e != x.want || !world.Same(s, want) {
			t.Error(i, e, s)
		}
	}
}

// P4.1
func TestNewPlain(t *testing.T) {
	kinds := map[api.Errno]int{}
	for i, x := range stages(t, 11, 4000) {
		l := world.Copy(x.s).Agents
		for k := range l {
			l[k].Begin = min(l[k].Begin, int64(k%2))
			if l[k].Begin > 0 {
				l[k].S, l[k].Gone = 0, false
			}
		}
		if l = slices.DeleteFunc(l, func(a api.Agent) bool { return a.Gone && i%8 > 0 }); len(l) > 2 {
			l = l[:2+i%2]
		}
		first := state(0, l...)
		want := world.Check(x.m, first)
		var in []api.Stay
		for k, a := range l {
			if a.Gone && want == api.OK {
				want = api.ErrState
			}
			for zone := range x.m.Zones {
				if want == api.OK && there(a, 0) && present(x.m, a, a, zone) {
					in = append(in, api.Stay{Agent: k, Zone: zone, Rank: rank(x.m, a.Route, zone, 0)})
				}
			}
		}
		if want == api.OK && clashing(x.m, l) {
			want = api.ErrClash
		}
		s, e := world.New(x.m, l)
		if first.In = in; e != api.OK {
			first = api.State{}
		}
		if e != want || !world.Same(s, first) {
			t.Error(i, e, want, s, first)
		}
		kinds[e]++
		if e == api.OK && len(in) > 1 {
			kinds[-1]++
		}
	}
	for _, k := range []api.Errno{api.OK, api.ErrState, api.ErrClash, -1} {
		if kinds[k] < 100 {
			t.Error("too few cases to show anything:", kinds)
		}
	}
}

// clashing reports whether two agents that are there at the tick 0 touch each
// other, or are in one zone with different entries.
func clashing(m api.Map, l []api.Agent) bool {
	for i, a := range l {
		for _, b := range l[:i] {
			if !there(a, 0) || !there(b, 0) {
				continue
			}
			if touching(m, a, b) {
				return true
			}
			for zone := range m.Zones {
				if present(m, a, a, zone) && present(m, b, b, zone) {
					p, _ := entry(m, a.Route, zone)
					q, _ := entry(m, b.Route, zone)
					if p.Lane != q.Lane {
						return true
					}
				}
			}
		}
	}
	return false
}
