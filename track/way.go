package track

import (
	"slices"

	"kerbstone/api"
	"kerbstone/roads"
)

// way is the route of the vehicle, with where its lanes start, and the length
// of the vehicle.
type way struct {
	*ground
	route  []int
	starts []int64
	size   int64
}

// follow returns the way of a vehicle, or why there is none, or what is known
// of it is not valid.
func follow(m api.Map, route []int, length int64, k api.Know) (*way, api.Errno) {
	g, e := look(m, k)
	if e != api.OK {
		return nil, e
	}
	if e := roads.CheckRoute(m, route); e != api.OK {
		return nil, e
	}
	if length < api.MinLen || length > api.MaxLen {
		return nil, api.ErrRange
	}
	return &way{ground: g, route: route, starts: roads.Starts(m, route), size: length}, api.OK
}

// start returns where a lane starts in the route, if it is there.
func (w *way) start(lane int) (int64, bool) {
	place := slices.Index(w.route, lane)
	if place < 0 {
		return 0, false
	}
	return w.starts[place], true
}

// follows reports whether next comes directly behind a lane in the route.
func (w *way) follows(lane, next int) bool {
	place := slices.Index(w.route, next)
	return place > 0 && w.route[place-1] == lane
}

// gap returns the coordinates at which the vehicle is wherever it may be, so
// that nobody else is there; and whether there are any.
func (w *way) gap(ego api.Ego) (from, to int64, ok bool) {
	from, to = ego.SHi-w.size, ego.SLo
	return from, to, from <= to
}

// outside returns what is left of blobs outside of the gap of the vehicle.
func (w *way) outside(l []blob, ego api.Ego) []blob {
	from, to, ok := w.gap(ego)
	if !ok {
		return l
	}
	var own []stretch
	for i, lane := range w.route {
		own = append(own, stretch{Lane: lane, From: from - w.starts[i], To: to - w.starts[i]})
	}
	return cut(l, own)
}

// drive returns the bounds of the vehicle after a tick with an acceleration.
func (w *way) drive(ego api.Ego, act int64) api.Ego {
	l := w.lanes[w.route[0]]
	act = min(max(act, -l.brake), l.accel)
	faster := func(v int64) int64 { return min(max(v+act, 0), l.speed) }
	ego.VLo, ego.VHi = faster(ego.VLo), faster(ego.VHi)
	ego.SLo, ego.SHi = ego.SLo+ego.VLo, ego.SHi+ego.VHi
	return ego
}
