package plan

import (
	"slices"

	"kerbstone/api"
	"kerbstone/roads"
)

// path is a route of a valid map, with where its lanes are, and how it goes
// through zones.
type path struct {
	m      api.Map
	route  []int
	lanes  []stretch
	visits []visit
}

// stretch is where a lane is, in the coordinate of the route.
type stretch struct {
	lane     int
	from, to int64
}

// visit is how a route goes through a zone: by which lane it comes in, and the
// passes, at least one. Others are the parts of the zone that those with
// another entry may use.
type visit struct {
	zone   api.Zone
	entry  int
	passes []api.Pass
	others []api.Part
}

// follow returns the path of a route, if it is one.
func follow(m api.Map, route []int) (*path, bool) {
	if roads.CheckRoute(m, route) != api.OK {
		return nil, false
	}
	p := &path{m: m, route: route}
	for i, from := range roads.Starts(m, route) {
		p.lanes = append(p.lanes, stretch{lane: route[i], from: from, to: from + roads.Length(m, route[i])})
	}
	passes := roads.Passes(m, route)
	for zone := range m.Zones {
		if place := roads.Entry(m, route, zone); place >= 0 {
			p.visits = append(p.visits, visitOf(m.Zones[zone], route[place], passesOf(passes, zone)))
		}
	}
	return p, true
}

// passesOf returns the passes of a zone.
func passesOf(l []api.Pass, zone int) []api.Pass {
	return slices.DeleteFunc(slices.Clone(l), func(p api.Pass) bool { return p.Zone != zone })
}

// visitOf returns how a route goes through a zone.
func visitOf(z api.Zone, entry int, passes []api.Pass) visit {
	others := slices.DeleteFunc(slices.Clone(z.Parts), func(p api.Part) bool { return p.Lane == entry })
	return visit{zone: z, entry: entry, passes: passes, others: others}
}

// length returns how long the route is.
func (p *path) length() int64 {
	return p.lanes[len(p.lanes)-1].to
}

// start returns where a lane starts in the route, if it is there.
func (p *path) start(lane int) (int64, bool) {
	place := slices.Index(p.route, lane)
	if place < 0 {
		return 0, false
	}
	return p.lanes[place].from, true
}

// Least returns the least limit at a tick of all places of a route from one
// coordinate to another one.
func Least(m api.Map, route []int, from, to, tick int64) int64 {
	p, ok := follow(m, route)
	if !ok || from < 0 || from > to || to > p.length() {
		return 0
	}
	return p.least(from, to, tick)
}

// least does the same for coordinates of the path.
func (p *path) least(from, to, tick int64) int64 {
	var least int64 = topSpeed
	for _, l := range p.lanes {
		first, last := max(from, l.from), min(to, l.to)
		if first <= last {
			least = min(least, p.leastOn(l.lane, first-l.from, last-l.from, tick))
		}
	}
	return least
}

// leastOn returns the least limit of a lane from one offset to another one.
func (p *path) leastOn(lane int, from, to, tick int64) int64 {
	least := roads.Limit(p.m, lane, from, tick)
	for _, w := range p.m.Works {
		// On the way a limit only becomes less where a work begins.
		if w.Lane == lane && within(w.From, from, to) {
			least = min(least, roads.Limit(p.m, lane, w.From, tick))
		}
	}
	return least
}

// isIn reports whether the route is in the zone somewhere from one coordinate
// to another one.
func (v visit) isIn(from, to int64) bool {
	return slices.ContainsFunc(v.passes, func(p api.Pass) bool { return p.From <= to && p.To >= from })
}

// isOutside reports whether all from one coordinate to another one is before
// the first pass, or behind the last one.
func (v visit) isOutside(from, to int64) bool {
	return to < v.passes[0].From || from > v.passes[len(v.passes)-1].To
}

// meets reports whether somebody who may come from another entry may pass a
// part of the zone. Those who are behind the vehicle stay there.
func (v visit) meets(l []api.Sweep) bool {
	return slices.ContainsFunc(l, func(s api.Sweep) bool {
		return !s.Behind && slices.ContainsFunc(v.others, func(p api.Part) bool {
			return s.Lane == p.Lane && s.From <= p.To && s.To >= p.From
		})
	})
}
