package world

import "kerbstone/api"

// turn is a tick of a scene: the accelerations, the state after it, and the
// crashes.
type turn struct {
	*scene
	acts    []int64
	after   api.State
	crashes []api.Crash
}

// Step returns the state after a tick with these accelerations, and the
// crashes of the tick.
func Step(m api.Map, s api.State, acts []int64) (api.State, []api.Crash, api.Errno) {
	w, e := look(m, s)
	if e != api.OK {
		return api.State{}, nil, e
	}
	if s.Tick == api.MaxTick {
		return api.State{}, nil, api.ErrRange
	}
	t := &turn{scene: w, acts: acts}
	for _, part := range [...]func(*turn){(*turn).count, (*turn).drive, (*turn).settle, (*turn).collide} {
		part(t)
	}
	return t.after, t.crashes, api.OK
}

// count counts the tick.
func (t *turn) count() {
	t.after.Tick = t.s.Tick + 1
}

// drive moves all agents.
func (t *turn) drive() {
	for i := range t.s.Agents {
		var act int64
		if i < len(t.acts) {
			act = t.acts[i]
		}
		t.after.Agents = append(t.after.Agents, t.move(i, act))
	}
}

// settle finds the stays after the tick.
func (t *turn) settle() {
	for i, before := range t.s.Agents {
		during := swept(before, t.after.Agents[i])
		for zone := range t.m.Zones {
			if !t.trails[i].meets(during, zone) {
				continue
			}
			x, ok := find(t.s.In, i, zone)
			if !ok {
				x = t.stay(i, zone)
			}
			t.after.In = append(t.after.In, x)
		}
	}
}

// collide finds the crashes.
func (t *turn) collide() {
	for a, b := range t.pairs() {
		if lane, who, ok := t.bump(a, b); ok {
			t.report(a, b, lane, -1, []int{who})
		}
		for x, y := range t.contests(t.after.In, a, b) {
			t.report(a, b, -1, x.Zone, blame(x, y))
		}
	}
}

// report adds a crash.
func (t *turn) report(a, b, lane, zone int, who []int) {
	t.crashes = append(t.crashes, api.Crash{Tick: t.s.Tick, A: a, B: b, Lane: lane, Zone: zone, Who: who})
}

// bump returns the first lane on which two agents crash, and who is
// responsible.
func (t *turn) bump(a, b int) (lane, who int, ok bool) {
	// The lanes of a route ascend, so that the first one has the least number.
	for _, lane := range t.trails[a].route {
		x, onx := t.trails[a].on(lane)
		y, ony := t.trails[b].on(lane)
		if !onx || !ony {
			continue
		}
		behind, front := t.ride(a, x), t.ride(b, y)
		if front.before <= behind.before {
			behind, front = front, behind
		}
		if behind.hits(front, x.hi-x.lo) {
			return lane, behind.agent, true
		}
	}
	return 0, 0, false
}

// ride is how an agent goes along a lane in a tick: the offset of its front
// before and after it (on this lane or not), and its length.
type ride struct {
	agent         int
	before, after int64
	length        int64
}

// ride returns how an agent goes along a lane that is there in its route.
func (t *turn) ride(agent int, lane interval) ride {
	before, after := t.s.Agents[agent], t.after.Agents[agent]
	return ride{agent: agent, before: before.S - lane.lo, after: after.S - lane.lo, length: before.Len}
}

// hits reports whether r, which is behind, crashes with the other one on a lane
// of this length.
func (r ride) hits(front ride, length int64) bool {
	reached := r.after >= 0 && front.after >= 0
	stillThere := r.before-r.length <= length && front.after-front.length <= length
	return reached && stillThere && r.after >= front.after-front.length
}
