package roads

import (
	"kerbstone/api"
	"kerbstone/curve"
)

// The bounds of a map that api does not name.
const (
	minHalf  = 200
	minParts = 2
	maxTicks = 10000
	maxRank  = 100
)

// Check returns the first reason for which m is not valid, otherwise OK.
func Check(m api.Map) api.Errno {
	n := &network{m: m}
	return n.check()
}

// stage is a stage of the check of a map: what is checked of each row.
type stage struct {
	rows  int
	check func(n *network, i int) api.Errno
}

// stages returns the stages of the check of a map. Each one relies on what the
// stages before it have found to hold.
func stages(m api.Map) []stage {
	return []stage{
		{1, checkVersion},
		{1, checkCounts},
		{len(m.Lanes), checkLane},
		{len(m.Lanes), checkNext},
		{len(m.Signals), checkSignal},
		{len(m.Zones), checkZone},
		{len(m.Works), checkWork},
	}
}

// check runs the stages, and finds the lengths of all lanes.
func (n *network) check() api.Errno {
	for _, s := range stages(n.m) {
		for i := range s.rows {
			if e := s.check(n, i); e != api.OK {
				return e
			}
		}
	}
	return api.OK
}

func checkVersion(n *network, _ int) api.Errno {
	if !within(n.m.Version, 0, api.MaxTick) {
		return api.ErrRange
	}
	return api.OK
}

func checkCounts(n *network, _ int) api.Errno {
	if len(n.m.Lanes) == 0 {
		return api.ErrShort
	}
	if len(n.m.Lanes) > api.MaxLanes || len(n.m.Zones) > api.MaxZones || len(n.m.Signals) > api.MaxSignals || len(n.m.Works) > api.MaxWorks {
		return api.ErrFull
	}
	return api.OK
}

func checkLane(n *network, i int) api.Errno {
	l := n.m.Lanes[i]
	v, _, _ := Bounds(l.Kind)
	if v == 0 {
		return api.ErrKind
	}
	if e := curve.Check(l.Curve); e != api.OK {
		return e
	}
	if !within(l.Half, minHalf, api.MaxHalf) || !within(l.Limit, 1, v) {
		return api.ErrRange
	}
	if len(l.Next) > api.MaxNext {
		return api.ErrFull
	}
	if !n.ascend(l.Next, i) {
		return api.ErrOrder
	}
	n.lengths[i] = curve.Length(l.Curve)
	return api.OK
}

func checkNext(n *network, i int) api.Errno {
	l := n.m.Lanes[i]
	end := l.Curve.Pts[len(l.Curve.Pts)-1]
	for _, next := range l.Next {
		if n.m.Lanes[next].Kind != l.Kind {
			return api.ErrKind
		}
		if n.m.Lanes[next].Curve.Pts[0] != end {
			return api.ErrForm
		}
	}
	return api.OK
}

func checkSignal(n *network, i int) api.Errno {
	s := n.m.Signals[i]
	if len(s.Phases) == 0 {
		return api.ErrShort
	}
	if len(s.Phases) > api.MaxPhases {
		return api.ErrFull
	}
	if !within(s.Offset, 0, api.MaxTick) {
		return api.ErrRange
	}
	for _, p := range s.Phases {
		if !within(p.Ticks, 1, maxTicks) {
			return api.ErrRange
		}
	}
	for _, p := range s.Phases {
		if !n.ascend(p.Green, -1) {
			return api.ErrOrder
		}
	}
	return api.OK
}

func checkZone(n *network, i int) api.Errno {
	z := n.m.Zones[i]
	if len(z.Parts) < minParts {
		return api.ErrShort
	}
	if len(z.Parts) > api.MaxParts {
		return api.ErrFull
	}
	if z.Signal < 0 || z.Signal > len(n.m.Signals) {
		return api.ErrRange
	}
	lanes := make([]int, len(z.Parts))
	for k, p := range z.Parts {
		lanes[k] = p.Lane
	}
	if !n.ascend(lanes, -1) {
		return api.ErrOrder
	}
	for _, p := range z.Parts {
		if p.From < 0 || p.From >= p.To || p.To > n.lengths[p.Lane] || p.Rank < 0 || p.Rank > maxRank {
			return api.ErrRange
		}
	}
	return api.OK
}

func checkWork(n *network, i int) api.Errno {
	w := n.m.Works[i]
	if !n.isLane(w.Lane) {
		return api.ErrMissing
	}
	if w.From < 0 || w.From > w.To || w.To > n.lengths[w.Lane] {
		return api.ErrRange
	}
	if w.Begin < 0 || w.Begin >= w.End || w.End > api.MaxTick {
		return api.ErrRange
	}
	v, _, _ := Bounds(n.m.Lanes[w.Lane].Kind)
	if !within(w.Limit, 0, v) {
		return api.ErrRange
	}
	return api.OK
}

// ascend reports whether these are numbers of lanes, each greater than the one
// before, and the first one greater than last.
func (n *network) ascend(lanes []int, last int) bool {
	for _, lane := range lanes {
		if lane <= last || !n.isLane(lane) {
			return false
		}
		last = lane
	}
	return true
}

// within reports whether x is from lo to hi.
func within(x, lo, hi int64) bool {
	return x >= lo && x <= hi
}
