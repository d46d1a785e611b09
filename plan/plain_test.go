package plan_test

import (
	"slices"

	"kerbstone/api"
	"kerbstone/curve"
	"kerbstone/roads"
	"kerbstone/track"
)

// The terms of the chapter, computed as plainly as they are written there.

// length returns the length of a lane.
func length(m api.Map, lane int) int64 { return curve.Length(m.Lanes[lane].Curve) }

// start returns where a lane starts in a route, -1 if it is not there.
func start(m api.Map, route []int, lane int) int64 {
	var sum int64
	for _, l := range route {
		if l == lane {
			return sum
		}
		sum += length(m, l)
	}
	return -1
}

// total returns the length of a route.
func total(m api.Map, route []int) int64 {
	last := route[len(route)-1]
	return start(m, route, last) + length(m, last)
}

// isCar reports whether a car is valid.
func isCar(c api.Car) bool {
	return c.Len >= 300 && c.Len <= 20000 && c.Accel >= 1 && c.Accel <= 30 && c.Brake >= 20 && c.Brake <= 90 &&
		c.Rate >= 5 && c.Rate <= 120 && c.Delay >= 0 && c.Delay <= 5
}

// isPlan reports whether a plan is valid for a car.
func isPlan(c api.Car, p api.Plan) bool {
	n := len(p.Acts)
	if !isCar(c) || n < 1 || n > 200 || p.Acts[n-1] > 0 {
		return false
	}
	for i, act := range p.Acts {
		if act < -c.Brake || act > c.Accel {
			return false
		}
		if i > 0 && (act-p.Acts[i-1] > c.Rate || p.Acts[i-1]-act > c.Rate) {
			return false
		}
	}
	return true
}

// ramped looks for the acceleration behind a ramp among all that there are.
func ramped(c api.Car, a, w int64) int64 {
	if a < -c.Brake {
		a = -c.Brake
	}
	if a > c.Accel {
		a = c.Accel
	}
	away := func(x int64) uint64 {
		if x < w {
			return uint64(w) - uint64(x)
		}
		return uint64(x) - uint64(w)
	}
	best := a
	for x := -c.Brake; x <= c.Accel; x++ {
		if x-a <= c.Rate && a-x <= c.Rate && away(x) < away(best) {
			best = x
		}
	}
	return best
}

// changed returns a speed behind an act: neither is so great that the sum does
// not fit.
func changed(v, act int64) int64 {
	if v += act; v < 0 {
		return 0
	} else if v > 2000 {
		return 2000
	}
	return v
}

// stopped returns the acts of a stop.
func stopped(c api.Car, a, v int64) []int64 {
	var l []int64
	v = changed(v, 0)
	for len(l) == 0 || v > 0 || a > 0 {
		a = ramped(c, a, -c.Brake)
		v = changed(v, a)
		l = append(l, a)
	}
	return l
}

// profiled returns a profile.
func profiled(c api.Car, queue []int64, last, v int64, up, hold int) api.Plan {
	if len(queue) > 5 {
		queue = queue[:5]
	}
	var l []int64
	do := func(act int64) {
		l, v, last = append(l, act), changed(v, act), act
	}
	for _, act := range queue {
		do(act)
	}
	for i := 0; i < up && i < 20; i++ {
		do(ramped(c, last, c.Accel))
	}
	for i := 0; i < hold && i < 20; i++ {
		do(ramped(c, last, 0))
	}
	return api.Plan{Acts: append(l, stopped(c, last, v)...)}
}

// profiles returns all candidates.
func profiles(c api.Car, queue []int64, last, v int64) []api.Plan {
	var l []api.Plan
	for _, up := range []int{6, 3, 1, 0} {
		l = append(l, profiled(c, queue, last, v, up, 4), profiled(c, queue, last, v, up, 0))
	}
	return l
}

// slowest returns the least limit of all places of a route between two
// coordinates, place by place.
func slowest(m api.Map, route []int, from, to, tick int64) int64 {
	var least int64 = 2000
	for _, lane := range route {
		first := start(m, route, lane)
		var works []api.Work
		for _, w := range m.Works {
			if w.Lane == lane && w.Begin <= tick && tick < w.End {
				works = append(works, w)
			}
		}
		for s := max(from, first); s <= to && s <= first+length(m, lane); s++ {
			least = min(least, m.Lanes[lane].Limit)
			for _, w := range works {
				if w.From <= s-first && s-first <= w.To {
					least = min(least, w.Limit)
				}
			}
		}
	}
	return least
}

// passes returns the passes of a zone on a route, in the order of its lanes.
func passes(m api.Map, route []int, zone int) []api.Span {
	var l []api.Span
	for _, lane := range route {
		for _, p := range m.Zones[zone].Parts {
			if p.Lane == lane {
				l = append(l, span(lane, start(m, route, lane)+p.From, start(m, route, lane)+p.To))
			}
		}
	}
	return l
}

// span makes a part of a lane, or a pass of a zone on it.
func span(lane int, from, to int64) api.Span { return api.Span{Lane: lane, From: from, To: to} }

// meet reports whether two intervals have a number in common.
func meet(a, b, c, d int64) bool { return max(a, c) <= min(b, d) }

// setting is what a plan is verified for.
type setting struct {
	m       api.Map
	route   []int
	c       api.Car
	k       api.Know
	signals bool
}

// verified returns what Verify has to return.
func verified(x setting, p api.Plan) api.Finding {
	if !roads.Fit(x.m) || roads.CheckRoute(x.m, x.route) != api.OK || !isPlan(x.c, p) || track.Check(x.m, x.k) != api.OK {
		return finding(0, api.WhyForm)
	}
	for _, lane := range x.route {
		if x.m.Lanes[lane].Kind != api.LaneRoad {
			return finding(0, api.WhyForm)
		}
	}
	k := x.k
	for i, act := range p.Acts {
		to, sweeps, e := track.Step(x.m, x.route, x.c.Len, k, act, x.signals)
		if e != api.OK {
			return finding(0, api.WhyForm)
		}
		if why := wrong(x, k, to, sweeps); why != 0 {
			return finding(i+1, why)
		}
		k = to
	}
	if k.Ego.VHi != 0 {
		return finding(len(p.Acts), api.WhyEnd)
	}
	for z := range x.m.Zones {
		l := passes(x.m, x.route, z)
		if len(l) > 0 && k.Ego.SHi >= l[0].From && k.Ego.SLo-x.c.Len <= l[len(l)-1].To {
			return finding(len(p.Acts), api.WhyEnd)
		}
	}
	return fine()
}

// wrong returns why a step from k is wrong, 0 if it is not.
func wrong(x setting, k, to api.Know, sweeps []api.Sweep) int {
	a, b := k.Ego, to.Ego
	if b.SHi > total(x.m, x.route) {
		return api.WhyRoute
	}
	if b.VHi > slowest(x.m, x.route, b.SLo, b.SHi, to.Tick) {
		return api.WhyLimit
	}
	for _, s := range sweeps {
		if b.VHi > 0 && slices.Contains(x.route, s.Lane) && !s.Behind && start(x.m, x.route, s.Lane)+s.From <= b.SHi {
			return api.WhyAhead
		}
	}
	for z := range x.m.Zones {
		if shared(x, z, a.SLo-x.c.Len, b.SHi, sweeps) {
			return api.WhyZone
		}
	}
	for z, y := range x.m.Zones {
		l := passes(x.m, x.route, z)
		if y.Signal > 0 && len(l) > 0 && b.SHi >= l[0].From && a.SLo < l[0].From && !roads.Green(x.m, y.Signal-1, l[0].Lane, k.Tick) {
			return api.WhySignal
		}
	}
	return 0
}

// shared reports whether the vehicle and somebody with another entry may be in
// a zone, the vehicle somewhere between two coordinates.
func shared(x setting, z int, from, to int64, sweeps []api.Sweep) bool {
	l := passes(x.m, x.route, z)
	if !slices.ContainsFunc(l, func(p api.Span) bool { return meet(p.From, p.To, from, to) }) {
		return false
	}
	for _, p := range x.m.Zones[z].Parts {
		for _, s := range sweeps {
			if p.Lane != l[0].Lane && s.Lane == p.Lane && !s.Behind && meet(s.From, s.To, p.From, p.To) {
				return true
			}
		}
	}
	return false
}
