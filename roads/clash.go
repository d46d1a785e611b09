package roads

import (
	"slices"

	"kerbstone/api"
	"kerbstone/curve"
)

// Clashes returns all contradictions of a map, by their kinds.
func Clashes(m api.Map) []api.Clash {
	n, e := survey(m)
	if e != api.OK {
		return nil
	}
	return append(n.misfits(), n.overlaps()...)
}

// Fit reports whether a map is valid, and has at most overlaps as
// contradictions.
func Fit(m api.Map) bool {
	n, e := survey(m)
	return e == api.OK && len(n.misfits()) == 0
}

// misfits returns the contradictions that a map that fits has not.
func (n *network) misfits() []api.Clash {
	return slices.Concat(
		n.merges(),
		n.chains(),
		n.together(api.ClashRank, n.sameRank),
		n.together(api.ClashGreen, n.bothGreen),
	)
}

// merges returns the lanes with several predecessors that no zone joins.
func (n *network) merges() []api.Clash {
	var l []api.Clash
	for a := range n.m.Lanes {
		joins := func(z api.Zone) bool { return n.joins(z, a) }
		if n.before[a].count() > 1 && !slices.ContainsFunc(n.m.Zones, joins) {
			l = append(l, api.Clash{Kind: api.ClashMerge, Zone: -1, A: a, B: -1})
		}
	}
	return l
}

// joins reports whether the zone goes on from all predecessors of the lane,
// which are its entries, to the lane.
func (n *network) joins(z api.Zone, lane int) bool {
	return covers(z, lane, 0, 0) && n.before[lane].in(n.ends(z)&n.entries(z))
}

// chains returns the parts of zones that do not go on from all predecessors of
// their lane, although another part leads to them.
func (n *network) chains() []api.Clash {
	var l []api.Clash
	for i, z := range n.m.Zones {
		entries, ends := n.entries(z), n.ends(z)
		for _, p := range z.Parts {
			if entries.has(p.Lane) || p.From == 0 && n.before[p.Lane].in(ends) {
				continue
			}
			l = append(l, api.Clash{Kind: api.ClashChain, Zone: i, A: p.Lane, B: -1})
		}
	}
	return l
}

// together returns the pairs of entries of a zone that clash.
func (n *network) together(kind int, clash func(z api.Zone, p, q api.Part) bool) []api.Clash {
	var l []api.Clash
	for i, z := range n.m.Zones {
		entries := n.entries(z)
		for k, p := range z.Parts {
			for _, q := range z.Parts[k+1:] {
				if entries.has(p.Lane) && entries.has(q.Lane) && clash(z, p, q) {
					l = append(l, api.Clash{Kind: kind, Zone: i, A: p.Lane, B: q.Lane})
				}
			}
		}
	}
	return l
}

// sameRank reports whether no signal, and no rank, tells which of two parts
// comes first.
func (n *network) sameRank(z api.Zone, p, q api.Part) bool {
	return z.Signal == 0 && p.Rank == q.Rank
}

// bothGreen reports whether the lanes of two parts are green in one phase.
func (n *network) bothGreen(z api.Zone, p, q api.Part) bool {
	if z.Signal == 0 {
		return false
	}
	for _, phase := range n.m.Signals[z.Signal-1].Phases {
		if green := setOf(phase.Green); green.has(p.Lane) && green.has(q.Lane) {
			return true
		}
	}
	return false
}

// overlaps returns the pairs of lanes that come together outside all zones.
func (n *network) overlaps() []api.Clash {
	var l []api.Clash
	for a := range n.m.Lanes {
		for b := a + 1; b < len(n.m.Lanes); b++ {
			if !n.related(a, b) && n.overlap(n.m.Lanes[a], n.m.Lanes[b], a, b) {
				l = append(l, api.Clash{Kind: api.ClashOverlap, Zone: -1, A: a, B: b})
			}
		}
	}
	return l
}

// related reports whether the lanes a and b, a being less than b, have to come
// together: one goes on in the other one, or they have a neighbour in common.
func (n *network) related(a, b int) bool {
	return n.next[a].has(b) || n.before[a]&n.before[b] != 0 || n.next[a]&n.next[b] != 0
}

// overlap reports whether the lanes a and b come together somewhere where they
// are not in one zone.
func (n *network) overlap(la, lb api.Lane, a, b int) bool {
	for _, x := range curve.Corridors(la.Curve, la.Half, lb.Curve, lb.Half) {
		apart := func(z api.Zone) bool {
			return covers(z, a, x.FromA, x.ToA) && covers(z, b, x.FromB, x.ToB)
		}
		if !slices.ContainsFunc(n.m.Zones, apart) {
			return true
		}
	}
	return false
}

// covers reports whether the zone has a part on the lane that contains these
// offsets.
func covers(z api.Zone, lane int, from, to int64) bool {
	k := partOn(z, lane)
	return k >= 0 && z.Parts[k].From <= from && z.Parts[k].To >= to
}

// partOn returns the number of the zone's part on the lane, -1 if it has none.
func partOn(z api.Zone, lane int) int {
	return slices.IndexFunc(z.Parts, func(p api.Part) bool { return p.Lane == lane })
}
