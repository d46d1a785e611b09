package roads

import (
	"cmp"
	"slices"

	"kerbstone/api"
)

// path is a route through a network, with where its lanes start.
type path struct {
	n      *network
	lanes  []int
	starts []int64
	length int64
}

// follow returns the path of a route, or why there is none.
func follow(m api.Map, route []int) (path, api.Errno) {
	n, e := survey(m)
	if e != api.OK {
		return path{}, e
	}
	if !n.isRoute(route) {
		return path{}, api.ErrRoute
	}
	p := path{n: n, lanes: route}
	for _, lane := range route {
		p.starts = append(p.starts, p.length)
		p.length += n.lengths[lane]
	}
	return p, api.OK
}

// isRoute reports whether the lanes are a route.
func (n *network) isRoute(lanes []int) bool {
	if len(lanes) == 0 || len(lanes) > api.MaxRoute {
		return false
	}
	if !n.isLane(lanes[0]) || n.before[lanes[0]] != 0 {
		return false
	}
	for i, lane := range lanes[1:] {
		if !n.next[lanes[i]].has(lane) {
			return false
		}
	}
	return true
}

// CheckRoute returns why there is no such route in the map, otherwise OK.
func CheckRoute(m api.Map, route []int) api.Errno {
	_, e := follow(m, route)
	return e
}

// RouteLength returns the length of a route.
func RouteLength(m api.Map, route []int) int64 {
	p, _ := follow(m, route)
	return p.length
}

// Starts returns where each lane of a route begins, in its coordinate.
func Starts(m api.Map, route []int) []int64 {
	p, _ := follow(m, route)
	return p.starts
}

// Place returns the last lane of a route that begins at or before the
// coordinate s, and the offset of s on it.
func Place(m api.Map, route []int, s int64) (lane int, offset int64, ok bool) {
	p, e := follow(m, route)
	if e != api.OK || !within(s, 0, p.length) {
		return 0, 0, false
	}
	i := len(p.starts) - 1
	for p.starts[i] > s {
		i--
	}
	return p.lanes[i], s - p.starts[i], true
}

// Passes returns the parts of zones on a route, by ascending From, then by
// Zone.
func Passes(m api.Map, route []int) []api.Pass {
	p, _ := follow(m, route)
	var passes []api.Pass
	for zone, z := range m.Zones {
		for i, lane := range p.lanes {
			if k := partOn(z, lane); k >= 0 {
				from, to := z.Parts[k].From, z.Parts[k].To
				passes = append(passes, api.Pass{Zone: zone, Part: k, From: p.starts[i] + from, To: p.starts[i] + to})
			}
		}
	}
	slices.SortFunc(passes, func(a, b api.Pass) int {
		return cmp.Or(cmp.Compare(a.From, b.From), cmp.Compare(a.Zone, b.Zone))
	})
	return passes
}

// Entry returns the place in a route of its first lane with a part of the
// zone, -1 if it has none.
func Entry(m api.Map, route []int, zone int) int {
	if _, e := follow(m, route); e != api.OK || zone < 0 || zone >= len(m.Zones) {
		return -1
	}
	return slices.IndexFunc(route, func(lane int) bool { return partOn(m.Zones[zone], lane) >= 0 })
}
