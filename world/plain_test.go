package world_test

import (
	"slices"

	"kerbstone/api"
	"kerbstone/curve"
	"kerbstone/roads"
)

// The terms of the chapter, computed as plainly as they are written there.

// length returns the length of a lane.
func length(m api.Map, lane int) int64 { return curve.Length(m.Lanes[lane].Curve) }

// start returns where a lane starts in a route, -1 if it is not there.
func start(m api.Map, route []int, lane int) int64 {
	var sum int64
	for _, l := range route {
		if l == lane {
			return sum
		}
		sum += length(m, l)
	}
	return -1
}

// total returns the length of a route.
func total(m api.Map, route []int) int64 {
	last := route[len(route)-1]
	return start(m, route, last) + length(m, last)
}

// place returns the lane of an agent, and its offset.
func place(m api.Map, a api.Agent) (int, int64) {
	for i := len(a.Route) - 1; ; i-- {
		if from := start(m, a.Route, a.Route[i]); from <= a.S {
			return a.Route[i], a.S - from
		}
	}
}

// there reports whether an agent is there at a tick.
func there(a api.Agent, tick int64) bool { return a.Begin <= tick && !a.Gone }

// stop adds up what is left of a speed.
func stop(v, b int64) int64 {
	var sum int64
	for k := int64(1); v-k*b > 0; k++ {
		sum += v - k*b
	}
	return sum
}

// body returns the parts of a body.
func body(m api.Map, a api.Agent) []api.Span {
	var l []api.Span
	for _, lane := range a.Route {
		from := start(m, a.Route, lane)
		rear, front := a.S-a.Len-from, a.S-from
		if front >= 0 && rear <= length(m, lane) {
			l = append(l, api.Span{Lane: lane, From: max(0, rear), To: min(length(m, lane), front)})
		}
	}
	return l
}

// inside reports whether spans have an offset of a part of a lane.
func inside(l []api.Span, lane int, from, to int64) bool {
	return slices.ContainsFunc(l, func(s api.Span) bool { return s.Lane == lane && s.From <= to && s.To >= from })
}

// touching reports whether two bodies have an offset in common.
func touching(m api.Map, a, b api.Agent) bool {
	return slices.ContainsFunc(body(m, b), func(s api.Span) bool { return inside(body(m, a), s.Lane, s.From, s.To) })
}

// present reports whether a part of a zone is passed from the rear before a
// tick to the front after it.
func present(m api.Map, before, after api.Agent, zone int) bool {
	rear, front := before.S-before.Len, after.S
	return rear <= front && slices.ContainsFunc(m.Zones[zone].Parts, func(p api.Part) bool {
		from := start(m, before.Route, p.Lane)
		return from >= 0 && from+p.From <= front && from+p.To >= rear
	})
}

// entry returns the first part of a zone on a route.
func entry(m api.Map, route []int, zone int) (api.Part, bool) {
	for _, lane := range route {
		for _, p := range m.Zones[zone].Parts {
			if p.Lane == lane {
				return p, true
			}
		}
	}
	return api.Part{}, false
}

// rank returns the rank of a route in a zone.
func rank(m api.Map, route []int, zone int, tick int64) int {
	p, ok := entry(m, route, zone)
	switch signal := m.Zones[zone].Signal; {
	case !ok:
		return 0
	case signal == 0:
		return p.Rank
	case roads.Green(m, signal-1, p.Lane, tick):
		return 2
	}
	return 0
}

// moved returns an agent that is there after a tick.
func moved(m api.Map, a api.Agent, tick, act int64) api.Agent {
	lane, f := place(m, a)
	most, up, down := roads.Bounds(m.Lanes[lane].Kind)
	for x := up; x >= -down; x-- {
		v := min(max(0, a.V+x), most)
		late := slices.ContainsFunc(roads.Red(m, lane, tick), func(line int64) bool {
			return a.Obey && line > f && f+stop(a.V, down) < line && f+v+stop(v, down) >= line
		})
		if x > max(act, -down) || late {
			continue
		}
		a.Route = slices.Clone(a.Route)
		a.V, a.S = v, a.S+v
		a.Gone = a.S-a.Len > total(m, a.Route)
		return a
	}
	panic("no acceleration is left")
}

// stepped returns the state after a tick, and the crashes.
func stepped(m api.Map, s api.State, acts []int64) (api.State, []api.Crash) {
	to := api.State{Tick: s.Tick + 1}
	acts = append(slices.Clone(acts), make([]int64, len(s.Agents))...)
	for i, a := range s.Agents {
		if there(a, s.Tick) {
			a = moved(m, a, s.Tick, acts[i])
		}
		to.Agents = append(to.Agents, a)
	}
	for i, a := range s.Agents {
		for zone := range m.Zones {
			if !present(m, a, to.Agents[i], zone) {
				continue
			}
			x := api.Stay{Agent: i, Zone: zone, Since: s.Tick, Rank: rank(m, a.Route, zone, s.Tick)}
			if k := slices.IndexFunc(s.In, func(y api.Stay) bool { return y.Agent == i && y.Zone == zone }); k >= 0 {
				x = s.In[k]
			}
			to.In = append(to.In, x)
		}
	}
	var l []api.Crash
	for a := range s.Agents {
		for b := a + 1; b < len(s.Agents); b++ {
			if there(s.Agents[a], s.Tick) && there(s.Agents[b], s.Tick) {
				l = append(l, onLane(m, s, to, a, b)...)
				l = append(l, inZone(m, s, to, a, b)...)
			}
		}
	}
	return to, l
}

// onLane returns the crash of two agents on a lane.
func onLane(m api.Map, s, to api.State, a, b int) []api.Crash {
	for lane := range m.Lanes {
		start := func(i int) int64 { return start(m, s.Agents[i].Route, lane) }
		if start(a) < 0 || start(b) < 0 {
			continue
		}
		front := func(i int) int64 { return s.Agents[i].S - start(i) }
		then := func(i int) int64 { return to.Agents[i].S - start(i) }
		long := func(i int) int64 { return s.Agents[i].Len }
		i, j := a, b
		if front(b) <= front(a) {
			i, j = b, a
		}
		if then(i) >= 0 && then(j) >= 0 && front(i)-long(i) <= length(m, lane) && then(j)-long(j) <= length(m, lane) && then(i) >= then(j)-long(j) {
			return []api.Crash{{Tick: s.Tick, A: a, B: b, Lane: lane, Zone: -1, Who: []int{i}}}
		}
	}
	return nil
}

// inZone returns the crashes of two agents in zones.
func inZone(m api.Map, s, to api.State, a, b int) []api.Crash {
	var l []api.Crash
	for zone := range m.Zones {
		if !present(m, s.Agents[a], to.Agents[a], zone) || !present(m, s.Agents[b], to.Agents[b], zone) {
			continue
		}
		p, _ := entry(m, s.Agents[a].Route, zone)
		q, _ := entry(m, s.Agents[b].Route, zone)
		if p.Lane == q.Lane {
			continue
		}
		stay := func(i int) api.Stay {
			return to.In[slices.IndexFunc(to.In, func(x api.Stay) bool { return x.Agent == i && x.Zone == zone })]
		}
		x, y := stay(a), stay(b)
		who := []int{a, b}
		if x.Rank < y.Rank || x.Rank == y.Rank && x.Since > y.Since {
			who = []int{a}
		}
		if y.Rank < x.Rank || x.Rank == y.Rank && y.Since > x.Since {
			who = []int{b}
		}
		l = append(l, api.Crash{Tick: s.Tick, A: a, B: b, Lane: -1, Zone: zone, Who: who})
	}
	return l
}

// spot returns the spot of a coordinate of a route.
func spot(m api.Map, a api.Agent, s int64) api.Spot {
	a.S = min(max(0, s), total(m, a.Route))
	lane, offset := place(m, a)
	return curve.At(m.Lanes[lane].Curve, offset)
}

// seen returns what is seen of a state.
func seen(m api.Map, s api.State, view int64) []api.Span {
	var l []api.Span
	for lane := range m.Lanes {
		for from := int64(0); from < length(m, lane); from += 1000 {
			to := min(from+1000, length(m, lane))
			if !cellSeen(m, s, view, lane, from, to) {
				continue
			}
			if n := len(l); n > 0 && l[n-1].Lane == lane && l[n-1].To == from {
				l[n-1].To = to
			} else {
				l = append(l, api.Span{Lane: lane, From: from, To: to})
			}
		}
	}
	return l
}

// cellSeen reports whether both ends of a cell are seen.
func cellSeen(m api.Map, s api.State, view int64, lane int, from, to int64) bool {
	eye := spot(m, s.Agents[0], s.Agents[0].S)
	ends := []api.Spot{curve.At(m.Lanes[lane].Curve, from), curve.At(m.Lanes[lane].Curve, to)}
	for i, a := range s.Agents {
		if i == 0 || !there(a, s.Tick) || inside(body(m, a), lane, from, to) {
			continue
		}
		front, rear := spot(m, a, a.S), spot(m, a, a.S-a.Len)
		if curve.Blocks(eye, ends[0], front, rear) || curve.Blocks(eye, ends[1], front, rear) {
			return false
		}
	}
	return curve.Sees(eye, ends[0], view) && curve.Sees(eye, ends[1], view)
}

// scanned returns the points of a state.
func scanned(m api.Map, s api.State, view int64, noise []int64) []api.Point {
	var l []api.Point
	add := func(to *int64, k, less int64) {
		if len(noise) > 0 {
			*to += modulo(noise[0], k) - less
			noise = noise[1:]
		}
	}
	for _, span := range seen(m, s, view) {
		for i, a := range s.Agents {
			for _, b := range body(m, a) {
				from, to := max(b.From, span.From), min(b.To, span.To)
				if i == 0 || !there(a, s.Tick) || b.Lane != span.Lane || from > to {
					continue
				}
				for offset := from; offset <= to; offset++ {
					if offset < to && (offset-from)%500 != 0 {
						continue
					}
					at := curve.At(m.Lanes[span.Lane].Curve, offset)
					p := api.Point{X: at.X, Y: at.Y, V: a.V}
					add(&p.X, 101, 50)
					add(&p.Y, 101, 50)
					add(&p.V, 11, 5)
					l = append(l, p)
				}
			}
		}
	}
	return l
}

// modulo returns n mod k, which is from 0 to k - 1.
func modulo(n, k int64) int64 {
	n %= k
	if n < 0 {
		n += k
	}
	return n
}
