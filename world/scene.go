package world

import (
	"cmp"
	"iter"

	"kerbstone/api"
	"kerbstone/roads"
)

// The bounds of a state that api does not name.
const (
	overrun = 2000
	maxRank = 100
)

// scene is a valid state of a valid map, with the trail and the body of each
// agent.
type scene struct {
	m      api.Map
	s      api.State
	trails [api.MaxAgents]trail
	bodies [api.MaxAgents][]api.Span
}

// look returns the scene of a state, or why the state is not valid.
func look(m api.Map, s api.State) (*scene, api.Errno) {
	if e := roads.Check(m); e != api.OK {
		return nil, e
	}
	w := &scene{m: m, s: s}
	if e := w.check(); e != api.OK {
		return nil, e
	}
	return w, api.OK
}

// check returns why the state is not valid, and finds the trails and bodies.
func (w *scene) check() api.Errno {
	if !(interval{lo: 0, hi: api.MaxTick}).holds(w.s.Tick) {
		return api.ErrRange
	}
	if len(w.s.Agents) == 0 {
		return api.ErrShort
	}
	if len(w.s.Agents) > api.MaxAgents {
		return api.ErrFull
	}
	for i := range w.s.Agents {
		if e := w.checkAgent(i); e != api.OK {
			return e
		}
	}
	return w.checkStays()
}

func (w *scene) checkAgent(i int) api.Errno {
	a := w.s.Agents[i]
	t, e := follow(w.m, a.Route)
	if e != api.OK {
		return e
	}
	if a.Len < api.MinLen || a.Len > api.MaxLen || a.Begin < 0 || a.Begin > api.MaxTick {
		return api.ErrRange
	}
	if a.S < 0 || a.S > t.length+a.Len+overrun || a.V < 0 || a.V > t.speed {
		return api.ErrRange
	}
	if a.Gone != t.left(a) || a.Begin > w.s.Tick && a.S != 0 || i == 0 && a.Begin != 0 {
		return api.ErrState
	}
	w.trails[i], w.bodies[i] = t, t.body(a)
	return api.OK
}

func (w *scene) checkStays() api.Errno {
	for i, x := range w.s.In {
		if x.Agent < 0 || x.Agent >= len(w.s.Agents) || x.Zone < 0 || x.Zone >= len(w.m.Zones) {
			return api.ErrOrder
		}
		if i > 0 && byAgent(w.s.In[i-1], x) >= 0 {
			return api.ErrOrder
		}
	}
	for _, x := range w.s.In {
		if x.Since < 0 || x.Since > w.s.Tick || x.Rank < 0 || x.Rank > maxRank {
			return api.ErrRange
		}
	}
	return api.OK
}

// byAgent compares stays by their agents, and then by their zones.
func byAgent(x, y api.Stay) int {
	return cmp.Or(cmp.Compare(x.Agent, y.Agent), cmp.Compare(x.Zone, y.Zone))
}

// pairs goes through the numbers of all two agents that are there, the lesser
// number first.
func (w *scene) pairs() iter.Seq2[int, int] {
	return func(yield func(int, int) bool) {
		for a := range w.s.Agents {
			for b := a + 1; b < len(w.s.Agents); b++ {
				if There(w.s, a) && There(w.s, b) && !yield(a, b) {
					return
				}
			}
		}
	}
}
