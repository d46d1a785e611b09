package roads_test

import (
	"math/big"
	"slices"

	"kerbstone/api"
	"kerbstone/curve"
)

// The terms of the chapter, computed as plainly as they are written there.

// before returns the predecessors of a lane.
func before(m api.Map, lane int) []int {
	var l []int
	for i, x := range m.Lanes {
		if slices.Contains(x.Next, lane) {
			l = append(l, i)
		}
	}
	return l
}

// leads reports whether the lane a leads to the lane b.
func leads(m api.Map, a, b int) bool {
	return slices.ContainsFunc(m.Lanes[a].Next, func(next int) bool { return next == b || leads(m, next, b) })
}

// length returns the length of a lane.
func length(m api.Map, lane int) int64 { return curve.Length(m.Lanes[lane].Curve) }

// entry reports whether a lane is an entry of a zone.
func entry(m api.Map, z api.Zone, lane int) bool {
	has := false
	for _, p := range z.Parts {
		has = has || p.Lane == lane
		if p.Lane != lane && leads(m, p.Lane, lane) {
			return false
		}
	}
	return has
}

// ends reports whether a part of the zone goes up to the end of the lane.
func ends(m api.Map, z api.Zone, lane int) bool {
	return slices.ContainsFunc(z.Parts, func(p api.Part) bool { return p.Lane == lane && p.To == length(m, lane) })
}

// contradictions returns all contradictions of a valid map.
func contradictions(m api.Map) []api.Clash {
	var l []api.Clash
	for a := range m.Lanes {
		if len(before(m, a)) > 1 && !joined(m, a) {
			l = append(l, api.Clash{Kind: 1, Zone: -1, A: a, B: -1})
		}
	}
	for i, z := range m.Zones {
		for _, p := range z.Parts {
			broken := p.From != 0
			for _, b := range before(m, p.Lane) {
				broken = broken || !ends(m, z, b)
			}
			if !entry(m, z, p.Lane) && broken {
				l = append(l, api.Clash{Kind: 2, Zone: i, A: p.Lane, B: -1})
			}
		}
	}
	return slices.Concat(l, pairs(m, 3), pairs(m, 4), crossings(m))
}

// joined reports whether a zone joins the predecessors of a lane.
func joined(m api.Map, a int) bool {
	for _, z := range m.Zones {
		ok := slices.ContainsFunc(z.Parts, func(p api.Part) bool { return p.Lane == a && p.From == 0 })
		for _, b := range before(m, a) {
			ok = ok && ends(m, z, b) && entry(m, z, b)
		}
		if ok {
			return true
		}
	}
	return false
}

// pairs returns the pairs of entries with one rank (kind 3), or that are green
// together (kind 4).
func pairs(m api.Map, kind int) []api.Clash {
	var l []api.Clash
	for i, z := range m.Zones {
		for _, p := range z.Parts {
			for _, q := range z.Parts {
				if p.Lane >= q.Lane || !entry(m, z, p.Lane) || !entry(m, z, q.Lane) {
					continue
				}
				if kind == 3 && z.Signal == 0 && p.Rank == q.Rank || kind == 4 && z.Signal > 0 && greenTogether(m.Signals[z.Signal-1], p.Lane, q.Lane) {
					l = append(l, api.Clash{Kind: kind, Zone: i, A: p.Lane, B: q.Lane})
				}
			}
		}
	}
	return l
}

func greenTogether(s api.Signal, a, b int) bool {
	return slices.ContainsFunc(s.Phases, func(p api.Phase) bool { return slices.Contains(p.Green, a) && slices.Contains(p.Green, b) })
}

// crossings returns the pairs of lanes that overlap outside the zones.
func crossings(m api.Map) []api.Clash {
	var l []api.Clash
	for a, x := range m.Lanes {
		for b, y := range m.Lanes {
			if a >= b || slices.Contains(x.Next, b) {
				continue
			}
			near := slices.ContainsFunc(x.Next, func(n int) bool { return slices.Contains(y.Next, n) })
			for _, o := range m.Lanes {
				near = near || slices.Contains(o.Next, a) && slices.Contains(o.Next, b)
			}
			if !near && slices.ContainsFunc(curve.Corridors(x.Curve, x.Half, y.Curve, y.Half), func(c api.Cross) bool { return !apart(m, a, b, c) }) {
				l = append(l, api.Clash{Kind: 5, Zone: -1, A: a, B: b})
			}
		}
	}
	return l
}

// apart reports whether one zone has all of a cross on both lanes.
func apart(m api.Map, a, b int, c api.Cross) bool {
	for _, z := range m.Zones {
		on := map[int]bool{}
		for _, p := range z.Parts {
			if p.Lane == a && p.From <= c.FromA && c.ToA <= p.To || p.Lane == b && p.From <= c.FromB && c.ToB <= p.To {
				on[p.Lane] = true
			}
		}
		if len(on) == 2 {
			return true
		}
	}
	return false
}

// routes returns all routes of a valid map.
func routes(m api.Map) [][]int {
	var l [][]int
	var follow func(route []int)
	follow = func(route []int) {
		l = append(l, slices.Clone(route))
		if len(route) == api.MaxRoute {
			return
		}
		for _, next := range m.Lanes[route[len(route)-1]].Next {
			follow(append(slices.Clone(route), next))
		}
	}
	for i := range m.Lanes {
		if len(before(m, i)) == 0 {
			follow([]int{i})
		}
	}
	return l
}

// phaseOf returns the number of the phase of a signal at a tick.
func phaseOf(s api.Signal, tick int64) int {
	var order []int
	for i, p := range s.Phases {
		order = append(order, slices.Repeat([]int{i}, int(p.Ticks))...)
	}
	at := new(big.Int).Add(big.NewInt(s.Offset), big.NewInt(tick))
	return order[at.Mod(at, big.NewInt(int64(len(order)))).Int64()]
}

// isGreen reports whether a lane is green for a signal at a tick.
func isGreen(s api.Signal, lane int, tick int64) bool {
	return slices.Contains(s.Phases[phaseOf(s, tick)].Green, lane)
}
