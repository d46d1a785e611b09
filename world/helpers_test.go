package world_test

import (
	"math"
	"slices"
	"testing"

	"kerbstone/api"
	"kerbstone/curve"
	"kerbstone/roads"
	"kerbstone/world"
)

// far and low are numbers that are in no range.
const far, low = math.MaxInt64, math.MinInt64

// of makes a curve of pairs of coordinates.
func of(l ...int64) api.Curve {
	var c api.Curve
	for i := 0; i+1 < len(l); i += 2 {
		c.Pts = append(c.Pts, api.Spot{X: l[i], Y: l[i+1]})
	}
	return c
}

// lane makes a lane of a kind, with the limit 100.
func lane(kind int, c api.Curve, next ...int) api.Lane {
	return api.Lane{Kind: kind, Curve: c, Half: 1500, Limit: 100, Next: next}
}

// zone makes a zone of its parts.
func zone(signal int, parts ...api.Part) api.Zone { return api.Zone{Signal: signal, Parts: parts} }

// part makes a part of a zone.
func part(lane int, from, to int64, rank int) api.Part {
	return api.Part{Lane: lane, From: from, To: to, Rank: rank}
}

// phase makes a phase of a signal.
func phase(ticks int64, green ...int) api.Phase { return api.Phase{Ticks: ticks, Green: green} }

// agent makes an agent with the length 4000.
func agent(s, v int64, route ...int) api.Agent {
	return api.Agent{Route: route, S: s, V: v, Len: 4000}
}

// with changes an agent.
func with(a api.Agent, change func(a *api.Agent)) api.Agent {
	change(&a)
	return a
}

// obeying makes an agent obey.
func obeying(a api.Agent) api.Agent {
	a.Obey = true
	return a
}

// state makes a state without stays.
func state(tick int64, l ...api.Agent) api.State { return api.State{Tick: tick, Agents: l} }

// cross is the map of the chapter's examples.
func cross() api.Map {
	return api.Map{
		Lanes: []api.Lane{lane(1, of(0, 0, 100000, 0)), lane(1, of(50000, -50000, 50000, 50000))},
		Zones: []api.Zone{zone(0, part(0, 48000, 52000, 1), part(1, 48000, 52000, 0))},
	}
}

// lights is that map with a signal, which is green for the lane 0 at the ticks
// 0 to 9, for none at 10 to 14, and for the lane 1 at 15 to 24.
func lights() api.Map {
	m := cross()
	m.Signals = []api.Signal{{Phases: []api.Phase{phase(10, 0), phase(5), phase(10, 1)}}}
	m.Zones[0].Signal = 1
	return m
}

// fork is a map with lanes of all kinds: the roads 0 and 1 come together, and
// go on as 2, which forks into 3 and 4; 5 is a way for bikes that goes on as 6,
// and 7 one for walkers, which both cross 3.
func fork() api.Map {
	return api.Map{
		Lanes: []api.Lane{
			lane(1, of(0, 0, 20000, 0), 2),
			lane(1, of(8000, 9000, 20000, 0), 2),
			lane(1, of(20000, 0, 50000, 0), 3, 4),
			lane(1, of(50000, 0, 90000, 0)),
			lane(1, of(50000, 0, 62000, 9000)),
			lane(2, of(70000, 20000, 70000, 5000), 6),
			lane(2, of(70000, 5000, 70000, -20000)),
			lane(3, of(75000, 3000, 75000, -3000)),
		},
		Zones: []api.Zone{
			zone(0, part(0, 15000, 20000, 2), part(1, 12000, 15000, 1), part(2, 0, 4000, 0)),
			zone(1, part(3, 18000, 22000, 7), part(5, 14000, 15000, 9), part(6, 0, 7000, 0)),
			zone(0, part(3, 23000, 27000, 7), part(7, 1000, 6000, 100)),
		},
		Signals: []api.Signal{{Offset: 3, Phases: []api.Phase{phase(4, 3), phase(2), phase(5, 5, 6)}}},
	}
}

// dice are numbers that look random, and are the same in each run.
type dice struct{ state uint64 }

// roll returns a number from lo to hi.
func (d *dice) roll(lo, hi int64) int64 {
	d.state ^= d.state << 13
	d.state ^= d.state >> 7
	d.state ^= d.state << 17
	return lo + int64((d.state>>8)%uint64(hi-lo+1))
}

// pick returns one of the numbers.
func (d *dice) pick(l ...int64) int64 { return l[d.roll(0, int64(len(l))-1)] }

// often reports true in so many of a hundred cases.
func (d *dice) often(percent int64) bool { return d.roll(1, 100) <= percent }

// noise returns numbers of any size.
func (d *dice) noise(count int64) []int64 {
	var l []int64
	for range count {
		l = append(l, d.pick(0, -1, 1, far, low, d.roll(-300, 300), d.roll(-far, far-1)))
	}
	return l
}

// way returns a curve between two nodes of a town, straight or with a turn.
func (d *dice) way(from, to int64) api.Curve {
	x, k := 8000*from, 1000*(to-from)
	if d.often(50) {
		return of(x, 0, x+8*k, 0)
	}
	return of(x, 0, x+4*k, 3*k*d.pick(-1, 1), x+8*k, 0)
}

// town returns a valid map with many zones: lanes between nodes, which lead to
// each other, and some across them.
func (d *dice) town() api.Map {
	var m api.Map
	count := d.roll(2, api.MaxLanes)
	kind := int(d.pick(1, 1, 1, 2, 3))
	var ends []int64
	for i := range count {
		from := i * 4 / count
		to := from + d.pick(1, 1, 2)
		l := lane(kind, d.way(from, to))
		if d.often(20) {
			x := 1000 * d.roll(1, 30)
			l, to, from = lane(int(d.roll(1, 3)), of(x, -3000, x, 4000)), -1, -2
		}
		for k := range m.Lanes {
			if ends[k] == from && m.Lanes[k].Kind == l.Kind && len(m.Lanes[k].Next) < api.MaxNext && d.often(80) {
				m.Lanes[k].Next = append(m.Lanes[k].Next, int(i))
			}
		}
		m.Lanes, ends = append(m.Lanes, l), append(ends, to)
	}
	d.control(&m)
	return m
}

// control puts signals and zones into a map.
func (d *dice) control(m *api.Map) {
	for range d.roll(0, 3) {
		s := api.Signal{Offset: d.roll(0, 20)}
		for range d.roll(1, 3) {
			p := phase(d.roll(1, 9))
			for lane := range m.Lanes {
				if d.often(30) {
					p.Green = append(p.Green, lane)
				}
			}
			s.Phases = append(s.Phases, p)
		}
		m.Signals = append(m.Signals, s)
	}
	for range d.roll(0, 6) {
		z := zone(0)
		if n := int64(len(m.Signals)); n > 0 && d.often(70) {
			z.Signal = int(d.roll(1, n))
		}
		for lane := range m.Lanes {
			if len(z.Parts) == api.MaxParts || d.often(50) {
				continue
			}
			to := curve.Length(m.Lanes[lane].Curve)
			from := d.pick(0, d.roll(0, to-1), d.roll(0, to-1))
			to = d.pick(to, d.roll(from+1, to))
			z.Parts = append(z.Parts, part(lane, from, to, int(d.roll(0, 2))))
		}
		if len(z.Parts) >= 2 {
			m.Zones = append(m.Zones, z)
		}
	}
}

// routes returns all routes of a valid map.
func routes(m api.Map) [][]int {
	var l [][]int
	var follow func(route []int)
	follow = func(route []int) {
		if roads.CheckRoute(m, route) != api.OK {
			return
		}
		l = append(l, slices.Clone(route))
		for _, next := range m.Lanes[route[len(route)-1]].Next {
			follow(append(slices.Clone(route), next))
		}
	}
	for i := range m.Lanes {
		follow([]int{i})
	}
	return l
}

// someone returns an agent for a state at this tick, anywhere on its route.
func (d *dice) someone(m api.Map, tick int64) api.Agent {
	l := routes(m)
	a := api.Agent{Route: l[d.roll(0, int64(len(l))-1)], Obey: d.often(70)}
	a.Len = d.pick(300, 4000, d.roll(300, 3000), d.roll(300, 20000))
	n := roads.RouteLength(m, a.Route)
	v, _, b := roads.Bounds(m.Lanes[a.Route[0]].Kind)
	places := []int64{0, n, n + a.Len, n + a.Len + 1, n + a.Len + 2000, d.roll(0, n), d.roll(0, n), d.roll(0, n+a.Len+2000)}
	for _, s := range roads.Starts(m, a.Route) {
		places = append(places, s, max(0, s-1), s+1, s+d.roll(0, 3000))
	}
	a.V = d.pick(0, v, d.roll(0, v), d.roll(0, min(v, 3*b)))
	for _, p := range roads.Passes(m, a.Route) {
		places = append(places, p.From, p.To, max(0, p.From-d.roll(0, 3000)), min(p.To+a.Len, n))
		places = append(places, max(0, p.From-stop(a.V, b)-d.roll(1, b)), max(0, p.From-stop(a.V, b)-d.roll(1, a.V+30)))
	}
	a.S = d.pick(places...)
	a.Begin = d.roll(0, tick)
	if d.often(15) {
		a.S, a.Begin = 0, min(api.MaxTick, tick+d.pick(1, d.roll(1, 9)))
	}
	a.Gone = a.S-a.Len > n
	return a
}

// scene returns a valid state of a map. Many agents are near each other.
func (d *dice) scene(m api.Map) api.State {
	s := api.State{Tick: d.pick(0, d.roll(0, 60), api.MaxTick-1)}
	for range d.roll(1, api.MaxAgents) {
		s.Agents = append(s.Agents, d.someone(m, s.Tick))
	}
	for s.Agents[0].Begin > s.Tick {
		s.Agents[0] = d.someone(m, s.Tick)
	}
	s.Agents[0].Begin = 0
	for i := range s.Agents {
		for zone := range m.Zones {
			if d.often(30) {
				s.In = append(s.In, api.Stay{Agent: i, Zone: zone, Since: d.pick(0, s.Tick, d.roll(0, s.Tick)), Rank: int(d.roll(0, 2))})
			}
		}
	}
	return s
}

// stage is a map with a state.
type stage struct {
	m api.Map
	s api.State
}

// stages returns maps with valid states.
func stages(t *testing.T, seed uint64, count int) []stage {
	t.Helper()
	d := &dice{seed}
	maps := []api.Map{cross(), lights(), fork()}
	var l []stage
	for i := range count {
		m := d.town()
		if i%4 == 0 {
			m = maps[i/4%len(maps)]
		}
		x := stage{m, d.scene(m)}
		if e := world.Check(x.m, x.s); e != api.OK {
			t.Fatal(i, e, roads.Check(m))
		}
		l = append(l, x)
	}
	return l
}

// acts returns accelerations for the agents of a state: too few, or too many.
func (d *dice) acts(s api.State) []int64 {
	var l []int64
	for range d.pick(0, 1, int64(len(s.Agents)), int64(len(s.Agents)), 20) {
		l = append(l, d.pick(0, far, low, 30, -90, d.roll(-95, 35), d.roll(-310, 110)))
	}
	return l
}
