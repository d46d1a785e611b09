package world

import (
	"cmp"
	"iter"

	"kerbstone/api"
)

// stay returns the stay of an agent in a zone that begins at the tick of the
// scene.
func (w *scene) stay(agent, zone int) api.Stay {
	return api.Stay{Agent: agent, Zone: zone, Since: w.s.Tick, Rank: w.trails[agent].rank(zone, w.s.Tick)}
}

// firstStays returns the stays of all agents that are in a zone as they begin.
func (w *scene) firstStays() []api.Stay {
	var in []api.Stay
	for i, a := range w.s.Agents {
		for zone := range w.m.Zones {
			if There(w.s, i) && w.trails[i].meets(swept(a, a), zone) {
				in = append(in, w.stay(i, zone))
			}
		}
	}
	return in
}

// find returns the stay of an agent in a zone.
func find(in []api.Stay, agent, zone int) (api.Stay, bool) {
	for _, x := range in {
		if x.Agent == agent && x.Zone == zone {
			return x, true
		}
	}
	return api.Stay{}, false
}

// contests goes through the zones in which both agents stay, with different
// entries, and yields the stays of both.
func (w *scene) contests(in []api.Stay, a, b int) iter.Seq2[api.Stay, api.Stay] {
	return func(yield func(api.Stay, api.Stay) bool) {
		for zone := range w.m.Zones {
			x, xok := find(in, a, zone)
			y, yok := find(in, b, zone)
			if !xok || !yok || w.sameEntry(a, b, zone) {
				continue
			}
			if !yield(x, y) {
				return
			}
		}
	}
}

// sameEntry reports whether two agents that stay in a zone have one entry.
func (w *scene) sameEntry(a, b, zone int) bool {
	p, _ := w.trails[a].entry(zone)
	q, _ := w.trails[b].entry(zone)
	return p.Lane == q.Lane
}

// blame returns who is responsible for a crash of two agents in a zone.
func blame(x, y api.Stay) []int {
	order := cmp.Or(cmp.Compare(x.Rank, y.Rank), cmp.Compare(y.Since, x.Since))
	if order < 0 {
		return []int{x.Agent}
	}
	if order > 0 {
		return []int{y.Agent}
	}
	return []int{x.Agent, y.Agent}
}
