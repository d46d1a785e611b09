package track

import (
	"kerbstone/api"
	"kerbstone/curve"
	"kerbstone/roads"
)

// topSpeed is the greatest speed that the vehicle may have on any lane.
const topSpeed = 2000

// ground is a valid map, with what its lanes are like.
type ground struct {
	m     api.Map
	lanes []lane
}

// lane is what a lane is like: how long it is, and the greatest speed,
// acceleration and braking on it.
type lane struct {
	length              int64
	speed, accel, brake int64
}

// survey returns the ground of a map, or why the map is not valid.
func survey(m api.Map) (*ground, api.Errno) {
	if e := roads.Check(m); e != api.OK {
		return nil, e
	}
	g := &ground{m: m}
	for _, x := range m.Lanes {
		l := lane{length: curve.Length(x.Curve)}
		l.speed, l.accel, l.brake = roads.Bounds(x.Kind)
		g.lanes = append(g.lanes, l)
	}
	return g, api.OK
}

// look returns the ground of a map, or why the map, or what is known in it, is
// not valid.
func look(m api.Map, k api.Know) (*ground, api.Errno) {
	g, e := survey(m)
	if e != api.OK {
		return nil, e
	}
	if e := g.check(k); e != api.OK {
		return nil, e
	}
	return g, api.OK
}

// Check returns the first reason for which k is not valid in m, otherwise OK.
func Check(m api.Map, k api.Know) api.Errno {
	_, e := look(m, k)
	return e
}

// check returns why what is known is not valid.
func (g *ground) check(k api.Know) api.Errno {
	ego := k.Ego
	if !within(k.Tick, k.Tick, api.MaxTick) || !within(ego.SLo, ego.SHi, api.MaxTick) || !within(ego.VLo, ego.VHi, topSpeed) {
		return api.ErrRange
	}
	for i, b := range k.Blobs {
		if e := g.checkBlob(b); e != api.OK {
			return e
		}
		if i > 0 && !apart(k.Blobs[i-1], b) {
			return api.ErrOrder
		}
	}
	return api.OK
}

func (g *ground) checkBlob(b api.Blob) api.Errno {
	if !g.isLane(b.Lane) {
		return api.ErrMissing
	}
	l := g.lanes[b.Lane]
	if !within(b.Lo, b.Hi, l.length) || !within(b.VLo, b.VHi, l.speed) || !within(b.Hold, b.Hold, l.length) {
		return api.ErrRange
	}
	return api.OK
}

// isLane reports whether there is a lane with this number.
func (g *ground) isLane(lane int) bool {
	return lane >= 0 && lane < len(g.lanes)
}

// has reports whether a span is one of offsets of a lane.
func (g *ground) has(s api.Span) bool {
	return g.isLane(s.Lane) && within(s.From, s.To, g.lanes[s.Lane].length)
}

// apart reports whether a blob comes after the one before, with an offset
// between them.
func apart(before, b api.Blob) bool {
	return b.Lane > before.Lane || b.Lane == before.Lane && b.Lo > before.Hi+1
}

// within reports whether lo and hi are numbers from 0 to most, in this order.
func within(lo, hi, most int64) bool {
	return lo >= 0 && lo <= hi && hi <= most
}
