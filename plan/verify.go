package plan

import (
	"kerbstone/api"
	"kerbstone/roads"
	"kerbstone/track"
)

// trial is what plans are verified against.
type trial struct {
	*path
	car     api.Car
	know    api.Know
	signals bool
}

// newTrial returns a trial, if plans can be verified in it. (A car that is not
// valid has no valid plan.)
func newTrial(m api.Map, route []int, c api.Car, k api.Know, signals bool) (*trial, bool) {
	p, ok := follow(m, route)
	if !ok || !roads.Fit(m) || track.Check(m, k) != api.OK {
		return nil, false
	}
	// All lanes of a route are of one kind.
	if m.Lanes[route[0]].Kind != api.LaneRoad {
		return nil, false
	}
	return &trial{path: p, car: c, know: k, signals: signals}, true
}

// Verify returns OK if nothing that may happen makes a plan wrong; otherwise
// which act is wrong, and why.
func Verify(m api.Map, route []int, c api.Car, k api.Know, p api.Plan, signals bool) api.Finding {
	t, ok := newTrial(m, route, c, k, signals)
	if !ok {
		return api.Finding{Why: api.WhyForm}
	}
	return t.verify(p)
}

// verify returns whether a plan is verified.
func (t *trial) verify(p api.Plan) api.Finding {
	if Check(t.car, p) != api.OK {
		return api.Finding{Why: api.WhyForm}
	}
	f := &forecast{m: t.m, route: t.route, size: t.car.Len, signals: t.signals}
	at, now := 0, t.know
	for next, sweeps := range f.steps(t.know, p, len(p.Acts)) {
		at++
		x := &moment{path: t.path, size: t.car.Len, tick: now.Tick, before: now.Ego, after: next.Ego, sweeps: sweeps}
		if why := x.why(); why != 0 {
			return api.Finding{At: at, Why: why}
		}
		now = next
	}
	if f.e != api.OK {
		return api.Finding{Why: api.WhyForm}
	}
	if !t.mayStay(now.Ego) {
		return api.Finding{At: at, Why: api.WhyEnd}
	}
	return api.Finding{OK: true}
}

// mayStay reports whether the vehicle stands, outside of all zones.
func (t *trial) mayStay(ego api.Ego) bool {
	for _, v := range t.visits {
		if !v.isOutside(ego.SLo-t.car.Len, ego.SHi) {
			return false
		}
	}
	return ego.VHi == 0
}

// moment is a tick in which the vehicle does an act: the tick before it, the
// bounds of the vehicle before and after it, and what others may pass in it.
type moment struct {
	*path
	size          int64
	tick          int64
	before, after api.Ego
	sweeps        []api.Sweep
}

// check is something that has to hold, and why an act is wrong if it does not.
type check struct {
	why   int
	holds func() bool
}

// why returns why the act is wrong, 0 if it is not.
func (x *moment) why() int {
	checks := []check{
		{api.WhyRoute, x.staysOnRoute},
		{api.WhyLimit, x.keepsLimits},
		{api.WhyAhead, x.reachesNobody},
		{api.WhyZone, x.sharesNoZone},
		{api.WhySignal, x.entersOnGreen},
	}
	for _, c := range checks {
		if !c.holds() {
			return c.why
		}
	}
	return 0
}

func (x *moment) staysOnRoute() bool {
	return x.after.SHi <= x.length()
}

func (x *moment) keepsLimits() bool {
	return x.after.VHi <= x.least(x.after.SLo, x.after.SHi, x.tick+1)
}

// reachesNobody reports whether the vehicle stands, or stays behind all who are
// ahead of it.
func (x *moment) reachesNobody() bool {
	if x.after.VHi == 0 {
		return true
	}
	for _, s := range x.sweeps {
		start, on := x.start(s.Lane)
		if on && !s.Behind && start+s.From <= x.after.SHi {
			return false
		}
	}
	return true
}

// sharesNoZone reports whether nobody with another entry may be in a zone in
// which the vehicle may be.
func (x *moment) sharesNoZone() bool {
	for _, v := range x.visits {
		if v.isIn(x.before.SLo-x.size, x.after.SHi) && v.meets(x.sweeps) {
			return false
		}
	}
	return true
}

// entersOnGreen reports whether it is green wherever the vehicle may enter.
func (x *moment) entersOnGreen() bool {
	for _, v := range x.visits {
		line := v.passes[0].From
		enters := v.zone.Signal > 0 && x.before.SLo < line && x.after.SHi >= line
		if enters && !roads.Green(x.m, v.zone.Signal-1, v.entry, x.tick) {
			return false
		}
	}
	return true
}
