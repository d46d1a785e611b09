package track_test

import (
	"slices"
	"testing"

	"kerbstone/api"
	"kerbstone/roads"
	"kerbstone/track"
	"kerbstone/world"
)

// scene is a map that fits with a valid state.
type scene struct {
	m api.Map
	s api.State
}

// scenes returns maps with states. All but the vehicle obey.
func scenes(t *testing.T, seed uint64, count int) []scene {
	t.Helper()
	d := &dice{seed}
	maps := []api.Map{cross(), lights(), fork()}
	var l []scene
	for i := range count {
		x := scene{m: d.town()}
		if i%8 == 0 {
			x.m = maps[i/8%len(maps)]
		}
		if !roads.Fit(x.m) {
			t.Fatal(i, roads.Check(x.m), roads.Clashes(x.m))
		}
		x.s = d.world(x.m)
		if e := world.Check(x.m, x.s); e != api.OK {
			t.Fatal(i, e)
		}
		l = append(l, x)
	}
	return l
}

// someone returns an agent for a state at this tick, anywhere on its route.
func (d *dice) someone(m api.Map, tick int64) api.Agent {
	a := api.Agent{Route: d.route(m), Obey: true, Begin: d.roll(0, tick)}
	a.Len = d.pick(300, 1000, d.roll(300, 3000), d.roll(300, 20000))
	n := total(m, a.Route)
	v := bounds(m, a.Route[0])
	a.V = d.pick(0, v, d.roll(0, v), d.roll(0, min(v, 300)))
	places := []int64{0, n, n + a.Len, n + a.Len + 1, d.roll(0, n), d.roll(0, n), d.roll(0, n), d.roll(0, n+a.Len)}
	for _, p := range roads.Passes(m, a.Route) {
		places = append(places, p.From, max(0, p.From-stop(a.V, 90)-d.roll(1, 100)), max(0, p.From-d.roll(1, 900)))
	}
	a.S = d.pick(places...)
	if d.often(20) {
		a.S, a.Begin = 0, min(api.MaxTick, tick+d.roll(1, 9))
	}
	a.Gone = a.S-a.Len > n
	return a
}

// world returns a valid state of a map, in which the vehicle does not obey.
func (d *dice) world(m api.Map) api.State {
	s := api.State{Tick: d.pick(0, d.roll(0, 60), api.MaxTick-40)}
	for range d.roll(1, api.MaxAgents) {
		s.Agents = append(s.Agents, d.someone(m, s.Tick))
	}
	for s.Agents[0].Begin > s.Tick {
		s.Agents[0] = d.someone(m, s.Tick)
	}
	s.Agents[0].Begin, s.Agents[0].Obey = 0, false
	return s
}

// around returns bounds around the vehicle of a state.
func around(s api.State, d *dice) api.Ego {
	a := s.Agents[0]
	wide := func(most int64) int64 { return d.pick(0, d.roll(0, most), most) }
	return ego(max(0, a.S-wide(400)), a.S+wide(400), max(0, a.V-wide(6)), min(2000, a.V+wide(6)))
}

// acts returns accelerations for the agents of a state.
func (d *dice) acts(s api.State) []int64 {
	var l []int64
	for range s.Agents {
		l = append(l, d.pick(0, far, low, 30, -90, d.roll(-95, 35), d.roll(-310, 110)))
	}
	return l
}

// touched reports whether somebody touches the vehicle.
func touched(m api.Map, s api.State) bool {
	for i, a := range s.Agents {
		if i > 0 && world.There(s, i) && world.Touching(m, s.Agents[0], a) {
			return true
		}
	}
	return false
}

// hitting reports whether the vehicle crashes.
func hitting(l []api.Crash) bool {
	return slices.ContainsFunc(l, func(c api.Crash) bool { return c.A == 0 })
}

// less returns something that says more than k: its bounds, and some parts of
// its blobs.
func (d *dice) less(m api.Map, k api.Know) api.Know {
	inner := func(lo, hi int64) (int64, int64) {
		a := d.pick(lo, lo, d.roll(lo, hi))
		return a, d.pick(hi, hi, d.roll(a, hi))
	}
	to := api.Know{Tick: k.Tick}
	to.Ego.SLo, to.Ego.SHi = inner(k.Ego.SLo, k.Ego.SHi)
	to.Ego.VLo, to.Ego.VHi = inner(k.Ego.VLo, k.Ego.VHi)
	for _, b := range k.Blobs {
		for lo := b.Lo; lo <= b.Hi && d.often(80); {
			c := b
			c.Lo, c.Hi = inner(lo, b.Hi)
			c.VLo, c.VHi = inner(b.VLo, b.VHi)
			if n := length(m, b.Lane); b.Hold == 0 {
				c.Hold = d.pick(0, d.roll(0, n), min(n, c.Hi+1))
			} else {
				c.Hold = d.pick(b.Hold, d.roll(1, b.Hold))
			}
			to.Blobs = append(to.Blobs, c)
			lo = c.Hi + d.pick(2, d.roll(2, 500))
		}
	}
	return to
}

// mid returns what was known after some steps, in which nobody was seen for a
// time.
func (r ride) mid(t *testing.T, d *dice) ride {
	t.Helper()
	for range d.roll(0, 3) {
		to, _, e := r.step()
		if e != api.OK {
			return r
		}
		r.k = to
		r.k = track.Update(r.m, r.k, d.scan(r))
	}
	return r
}
