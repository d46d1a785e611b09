package plan_test

import (
	"slices"
	"testing"

	"kerbstone/api"
	"kerbstone/roads"
	"kerbstone/track"
	"kerbstone/world"
)

// scene is a map that fits with a valid state, in which the vehicle is on roads
// with all of its body, and nobody is in its way: the premises of P7.9.
type scene struct {
	m       api.Map
	s       api.State
	signals bool
}

// scenes returns maps with states.
func scenes(t *testing.T, seed uint64, count int) []scene {
	t.Helper()
	d := &dice{seed}
	maps := []func() api.Map{cross, lights, merge, fork}
	var l []scene
	for len(l) < count {
		x := scene{m: d.town(), signals: d.often(60)}
		if len(l)%4 == 0 {
			x.m = maps[len(l)/4%len(maps)]()
		}
		route := d.route(x.m, api.LaneRoad)
		if route == nil {
			continue
		}
		x.s = d.world(x.m, route, x.signals)
		if e := world.Check(x.m, x.s); e != api.OK {
			t.Fatal(len(l), e, x)
		}
		if x.s.Agents[0].S > x.s.Agents[0].Len && !touched(x.m, x.s) && !mixed(x.m, x.s) {
			l = append(l, x)
		}
	}
	return l
}

// someone returns an agent for a state at this tick, anywhere on its route.
func (d *dice) someone(m api.Map, route []int, tick int64) api.Agent {
	a := api.Agent{Route: route, Begin: d.roll(0, tick)}
	a.Len = d.pick(300, 1000, d.roll(300, 3000), d.roll(300, 20000))
	n, v := total(m, route), most(m, route[0])
	a.V = d.pick(0, v, d.roll(0, v), d.roll(0, min(v, 300)))
	at := []int64{0, n, n + a.Len, n + a.Len + 1, d.roll(0, n), d.roll(0, n), d.roll(0, n), d.roll(0, n+a.Len)}
	for _, p := range roads.Passes(m, a.Route) {
		at = append(at, p.From, max(0, p.From-d.roll(1, 900)), p.To+a.Len+d.roll(0, 900), p.To)
	}
	a.S = min(d.pick(at...), n+a.Len+2000)
	if d.often(20) {
		a.S, a.Begin = 0, tick+d.roll(1, 9)
	}
	a.Gone = a.S-a.Len > n
	return a
}

// world returns a valid state of a map, whose vehicle has a route. All others
// obey, if signals are obeyed.
func (d *dice) world(m api.Map, route []int, signals bool) api.State {
	s := api.State{Tick: d.pick(0, d.roll(0, 60))}
	a := d.someone(m, route, 0)
	a.Begin = 0
	a.S = min(max(a.S, a.Len+1), total(m, route)+a.Len)
	a.Gone = false
	s.Agents = append(s.Agents, a)
	for range d.roll(0, api.MaxAgents-1) {
		a := d.someone(m, d.route(m, 0), s.Tick)
		a.Obey = signals || d.often(50)
		s.Agents = append(s.Agents, a)
	}
	for i := range s.Agents {
		for z := range m.Zones {
			if d.often(20) {
				s.In = append(s.In, api.Stay{Agent: i, Zone: z, Since: d.roll(0, s.Tick), Rank: int(d.pick(0, 2, d.roll(0, 100)))})
			}
		}
	}
	return s
}

// touched reports whether somebody touches the vehicle.
func touched(m api.Map, s api.State) bool {
	for i, a := range s.Agents {
		if i > 0 && world.There(s, i) && world.Touching(m, s.Agents[0], a) {
			return true
		}
	}
	return false
}

// mixed reports whether somebody with another entry is in a zone in which the
// vehicle is.
func mixed(m api.Map, s api.State) bool {
	for z := range m.Zones {
		own, in := entering(m, s.Agents[0], z)
		for i, a := range s.Agents {
			if entry, there := entering(m, a, z); i > 0 && world.There(s, i) && in && there && entry != own {
				return true
			}
		}
	}
	return false
}

// entering returns the entry of an agent in a zone, and whether it is there.
func entering(m api.Map, a api.Agent, zone int) (int, bool) {
	l := passes(m, a.Route, zone)
	if len(l) == 0 {
		return -1, false
	}
	return l[0].Lane, slices.ContainsFunc(l, func(p api.Span) bool { return meet(p.From, p.To, a.S-a.Len, a.S) })
}

// guilty reports whether the vehicle is responsible for a crash.
func guilty(l []api.Crash) bool {
	return slices.ContainsFunc(l, func(c api.Crash) bool { return slices.Contains(c.Who, 0) })
}

// hit reports whether the vehicle is in a crash.
func hit(l []api.Crash) bool {
	return slices.ContainsFunc(l, func(c api.Crash) bool { return c.A == 0 })
}

// behaviour returns accelerations for the agents of a state.
func (d *dice) behaviour(s api.State) []int64 {
	var l []int64
	for range s.Agents {
		l = append(l, d.pick(0, far, low, 30, -90, d.roll(-95, 35), d.roll(-310, 110)))
	}
	return l
}

// sure returns something that covers the state of a scene: bounds around all
// who are there.
func (d *dice) sure(x scene) api.Know {
	a := x.s.Agents[0]
	wide := func(most int64) int64 { return d.pick(0, 0, d.roll(0, most)) }
	k := know(x.s.Tick, ego(max(0, a.S-wide(400)), a.S+wide(400), max(0, a.V-wide(6)), min(2000, a.V+wide(6))))
	for i, a := range x.s.Agents {
		if i == 0 || !world.There(x.s, i) {
			continue
		}
		for _, part := range world.Body(x.m, a) {
			k.Blobs = append(k.Blobs, blob(part.Lane, max(0, part.From-wide(200)), min(length(x.m, part.Lane), part.To+wide(200)), max(0, a.V-wide(9)), min(most(x.m, part.Lane), a.V+wide(9))))
		}
	}
	k.Blobs = track.Join(k.Blobs)
	return k
}
