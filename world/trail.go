package world

import (
	"slices"

	"kerbstone/api"
	"kerbstone/curve"
	"kerbstone/roads"
)

// greenRank is the rank of those who enter a zone with a signal while it is
// green for them.
const greenRank = 2

// trail is a route of a valid map: where its lanes start, how long it is,
// which zones it passes, and what may be done on lanes of its kind.
type trail struct {
	m      api.Map
	route  []int
	starts []int64
	length int64
	passes []api.Pass
	// The greatest speed, acceleration and braking.
	speed, accel, brake int64
}

// follow returns the trail of a route, or why there is none.
func follow(m api.Map, route []int) (trail, api.Errno) {
	if e := roads.CheckRoute(m, route); e != api.OK {
		return trail{}, e
	}
	t := trail{
		m:      m,
		route:  route,
		starts: roads.Starts(m, route),
		length: roads.RouteLength(m, route),
		passes: roads.Passes(m, route),
	}
	// All lanes of a route are of one kind.
	t.speed, t.accel, t.brake = roads.Bounds(m.Lanes[route[0]].Kind)
	return t, api.OK
}

// trailOf returns the trail of an agent, if it has one, and is somewhere on
// it or behind it.
func trailOf(m api.Map, a api.Agent) (trail, bool) {
	t, e := follow(m, a.Route)
	ticks := interval{lo: 0, hi: api.MaxTick}
	return t, e == api.OK && ticks.holds(a.S) && ticks.holds(a.Len)
}

// stretch returns where the lane with this place in the route is, in the
// coordinate of the route.
func (t trail) stretch(place int) interval {
	if place+1 < len(t.starts) {
		return interval{lo: t.starts[place], hi: t.starts[place+1]}
	}
	return interval{lo: t.starts[place], hi: t.length}
}

// on returns where a lane is, in the coordinate of the route.
func (t trail) on(lane int) (interval, bool) {
	place := slices.Index(t.route, lane)
	if place < 0 {
		return nothing, false
	}
	return t.stretch(place), true
}

// body returns the parts of the body of an agent, lane by lane.
func (t trail) body(a api.Agent) []api.Span {
	var parts []api.Span
	for place, lane := range t.route {
		stretch := t.stretch(place)
		part := swept(a, a).common(stretch)
		if part == nothing {
			continue
		}
		part = part.minus(stretch.lo)
		parts = append(parts, api.Span{Lane: lane, From: part.lo, To: part.hi})
	}
	return parts
}

// swept returns the coordinates at which an agent is during a tick that
// changes it from before to after.
func swept(before, after api.Agent) interval {
	return interval{lo: before.S - before.Len, hi: after.S}
}

// place returns the lane of an agent whose front is at the coordinate s, which
// is not below 0, and its offset. Behind the route the offset is behind the
// last lane.
func (t trail) place(s int64) (lane int, offset int64) {
	on := min(s, t.length)
	lane, offset, _ = roads.Place(t.m, t.route, on)
	return lane, offset + s - on
}

// spot returns the spot of a coordinate, which is brought into the route.
func (t trail) spot(s int64) api.Spot {
	lane, offset := t.place(max(s, 0))
	return curve.At(t.m.Lanes[lane].Curve, offset)
}

// meets reports whether a pass of the zone has one of the coordinates.
func (t trail) meets(coordinates interval, zone int) bool {
	for _, p := range t.passes {
		if p.Zone == zone && coordinates.meets(interval{lo: p.From, hi: p.To}) {
			return true
		}
	}
	return false
}

// entry returns the part of the zone on the route's entry.
func (t trail) entry(zone int) (api.Part, bool) {
	// The passes are ordered, so that the first one is on the first lane.
	for _, p := range t.passes {
		if p.Zone == zone {
			return t.m.Zones[zone].Parts[p.Part], true
		}
	}
	return api.Part{}, false
}

// rank returns the rank that the route has in a zone at a tick.
func (t trail) rank(zone int, tick int64) int {
	part, ok := t.entry(zone)
	if !ok {
		return 0
	}
	signal := t.m.Zones[zone].Signal
	if signal == 0 {
		return part.Rank
	}
	if roads.Green(t.m, signal-1, part.Lane, tick) {
		return greenRank
	}
	return 0
}
