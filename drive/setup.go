package drive

import (
	"slices"

	"kerbstone/api"
	"kerbstone/plan"
	"kerbstone/roads"
)

// The bounds of a setup that api does not name.
const (
	maxStart   = api.MaxTick - 1000000
	maxBudget  = 8
	maxSilence = 1000
)

// CheckSetup returns the first reason for which a setup is not valid, otherwise
// OK.
func CheckSetup(s api.NodeSetup) api.Errno {
	if e := roads.Check(s.Map); e != api.OK {
		return e
	}
	if !roads.Fit(s.Map) {
		return api.ErrClash
	}
	if roads.CheckRoute(s.Map, s.Route) != api.OK {
		return api.ErrRoute
	}
	// All lanes of a route are of one kind.
	if s.Map.Lanes[s.Route[0]].Kind != api.LaneRoad {
		return api.ErrKind
	}
	if plan.CheckCar(s.Car) != api.OK || !within(s.Tick, 0, maxStart) {
		return api.ErrRange
	}
	if !within(s.Budget, 0, maxBudget) || !within(s.Silence, 0, maxSilence) {
		return api.ErrRange
	}
	if !mayBegin(s) {
		return api.ErrState
	}
	return api.OK
}

// mayBegin reports whether the vehicle stands on its route, outside of all
// zones, and it is known well enough where it is that it has a gap.
func mayBegin(s api.NodeSetup) bool {
	ego := s.Ego
	if ego.VLo != 0 || ego.VHi != 0 {
		return false
	}
	// The place is in bounds before anything is computed of it.
	if !within(ego.SLo, s.Car.Len+1, ego.SHi) || ego.SHi > roads.RouteLength(s.Map, s.Route) {
		return false
	}
	return ego.SHi-ego.SLo < s.Car.Len && isOutside(s, ego.SLo-s.Car.Len, ego.SHi)
}

// isOutside reports whether all from one coordinate of the route to another one
// is, for each zone, before its first pass, or behind the last one.
func isOutside(s api.NodeSetup, from, to int64) bool {
	passes := roads.Passes(s.Map, s.Route)
	for zone := range s.Map.Zones {
		l := slices.DeleteFunc(slices.Clone(passes), func(p api.Pass) bool { return p.Zone != zone })
		if len(l) > 0 && to >= l[0].From && from <= l[len(l)-1].To {
			return false
		}
	}
	return true
}

// copySetup returns an equal setup, in memory of its own.
func copySetup(s api.NodeSetup) api.NodeSetup {
	s.Map = roads.Copy(s.Map)
	s.Route = slices.Clone(s.Route)
	return s
}

// within reports whether x is from lo to hi.
func within[N int | int64](x, lo, hi N) bool {
	return x >= lo && x <= hi
}
