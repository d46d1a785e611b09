package world

import (
	"kerbstone/api"
	"kerbstone/roads"
)

// fastest is as which greater speeds and brakings count for Stop.
const fastest = 1000000

// Stop returns the distance that it takes to stop from the speed v with the
// braking b.
func Stop(v, b int64) int64 {
	if v < 1 || b < 1 {
		return 0
	}
	v, b = min(v, fastest), min(b, fastest)
	ticks := (v - 1) / b
	return ticks*v - b*ticks*(ticks+1)/2
}

// Move returns an agent after a tick with the acceleration act.
func Move(m api.Map, s api.State, i int, act int64) api.Agent {
	if i < 0 || i >= len(s.Agents) {
		return api.Agent{}
	}
	w, e := look(m, s)
	if e != api.OK {
		return copyAgent(s.Agents[i])
	}
	return w.move(i, act)
}

// move returns an agent after a tick with the acceleration act.
func (w *scene) move(i int, act int64) api.Agent {
	a := copyAgent(w.s.Agents[i])
	if !There(w.s, i) {
		return a
	}
	t := w.trails[i]
	act = min(max(act, -t.brake), t.accel)
	if a.Obey {
		act = w.obey(i, act)
	}
	a.V = t.faster(a.V, act)
	a.S += a.V
	a.Gone = t.left(a)
	return a
}

// obey returns the greatest acceleration, not greater than act, with which an
// agent can still stop before each red line before which it could stop.
func (w *scene) obey(i int, act int64) int64 {
	a, t := w.s.Agents[i], w.trails[i]
	lane, f := t.place(a.S)
	halt := f + Stop(a.V, t.brake)
	after := func(act int64) int64 {
		v := t.faster(a.V, act)
		return f + v + Stop(v, t.brake)
	}
	for _, line := range roads.Red(w.m, lane, w.s.Tick) {
		// A line before which the agent could stop is ahead of its front; and it
		// stops there again at the latest with the full braking.
		for halt < line && after(act) >= line {
			act--
		}
	}
	return act
}

// faster returns the speed v after a tick with an acceleration.
func (t trail) faster(v, act int64) int64 {
	return min(max(v+act, 0), t.speed)
}

// left reports whether an agent has left its route.
func (t trail) left(a api.Agent) bool {
	return a.S-a.Len > t.length
}
