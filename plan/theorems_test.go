package plan_test

import (
	"slices"
	"testing"

	"kerbstone/api"
	"kerbstone/plan"
	"kerbstone/track"
	"kerbstone/world"
)

// P7.8: a plan that is verified is so for who knows more, and so is its tail
// behind its first act.
func TestTailsAreVerified(t *testing.T) {
	d := &dice{61}
	plans, acted := 0, 0
	for i, x := range trips(t, 62, 3500) {
		if i%9 == 0 {
			x.k.Tick = api.MaxTick - api.MaxActs - 2
		}
		for x.verify().OK {
			more := x
			if more.k = d.shorter(x.m, x.k); !more.verify().OK {
				t.Fatal(i, more.verify(), x, more.k)
			}
			to, _, e := track.Step(x.m, x.route, x.c.Len, x.k, plan.Act(x.p, 0), x.signals)
			if e != api.OK {
				t.Fatal(i, e)
			}
			if plans++; to.Tick >= api.MaxTick-api.MaxActs {
				break
			}
			x.k, x.p = d.pickKnow(to, d.shorter(x.m, to)), plan.Tail(x.p)
			if !x.verify().OK {
				t.Fatal(i, x.verify(), x)
			}
			if acted++; len(x.p.Acts) == 1 && d.often(50) {
				break
			}
		}
	}
	if plans < 4000 || acted < 4000 {
		t.Error("too few plans to show anything:", plans, acted)
	}
}

// pickKnow returns one of both.
func (d *dice) pickKnow(a, b api.Know) api.Know {
	if d.often(50) {
		return a
	}
	return b
}

// P7.9: the vehicle is responsible for no crash of the step in which it has the
// first act of a plan that is verified.
func TestVerifiedPlansAreNotAtFault(t *testing.T) {
	d := &dice{63}
	plans, crashes, moving := 0, 0, 0
	for i, x := range scenes(t, 64, 3000) {
		c := d.car()
		a := x.s.Agents[0]
		c.Len = a.Len
		v := setting{x.m, a.Route, c, d.sure(x), x.signals}
		if !track.Covers(x.m, x.s, v.k) {
			t.Fatal(i, track.Check(x.m, v.k), x, v.k)
		}
		l := append(plan.Candidates(c, nil, d.roll(-c.Brake, c.Accel), v.k.Ego.VHi), acts(0), d.plan(c, v.k.Ego.VHi))
		for _, p := range l {
			first := plan.Act(p, 0)
			acts := d.behaviour(x.s)
			acts[0] = first
			_, hits, e := world.Step(x.m, x.s, acts)
			if e != api.OK {
				t.Fatal(i, e)
			}
			if guilty(hits) {
				crashes++
			}
			if !(trip{v, p}).verify().OK {
				continue
			}
			if plans++; a.V+first > 0 {
				moving++
			}
			if guilty(hits) {
				t.Fatal(i, x, v, p, acts, hits)
			}
		}
	}
	if plans < 2500 || moving < 1200 || crashes < 600 {
		t.Error("too few plans to show anything:", plans, moving, crashes)
	}
}

// T1: with a search in each tick, and the tail of the plan if there is no better
// one, the plan is verified behind each tick, and the vehicle is responsible for
// no crash, up to the first one with it.
func TestNoFault(t *testing.T) {
	d := &dice{65}
	ticks, far, zones := 0, 0, 0
	for i := range 150 {
		m, c := d.town(), d.car()
		switch {
		case i%4 == 0:
			m = []api.Map{cross(), lights(), merge(), fork()}[i/4%4]
		case i%2 == 1:
			m, c.Len = crossing(), d.roll(300, 900)
		}
		s, ok := d.beginning(m, c.Len)
		if !ok {
			continue
		}
		signals := d.often(60)
		for k := range s.Agents {
			s.Agents[k].Obey = k > 0 && (signals || d.often(50))
		}
		x := trip{setting{m, s.Agents[0].Route, c, track.All(m, 0, ego(s.Agents[0].S, s.Agents[0].S, 0, 0)), signals}, acts(0)}
		x.k = track.Own(m, x.route, c.Len, x.k)
		for last := int64(0); s.Tick < 60; ticks++ {
			x.measure(t, d, s)
			if p, _, ok := x.search(x.p.Acts[:min(c.Delay, len(x.p.Acts))], last, 8); ok {
				x.p = p
			}
			if f := x.verify(); !f.OK {
				t.Fatal(i, s.Tick, f, x)
			}
			doing := d.behaviour(s)
			last = plan.Act(x.p, 0)
			doing[0] = last
			to, hits, e := world.Step(m, s, doing)
			if e != api.OK || guilty(hits) {
				t.Fatal(i, e, hits, s, x)
			}
			if hit(hits) {
				break
			}
			if x.k, _, e = track.Step(m, x.route, c.Len, x.k, last, signals); e != api.OK {
				t.Fatal(i, e)
			}
			if x.p = plan.Tail(x.p); to.Agents[0].V > 0 {
				far++
			}
			if slices.ContainsFunc(to.In, func(y api.Stay) bool { return y.Agent == 0 }) {
				zones++
			}
			s = to
		}
	}
	if ticks < 3000 || far < 1000 || zones < 40 {
		t.Error("too few ticks to show anything:", ticks, far, zones)
	}
}

// crossing is a map of roads that cross with a signal, which is green for a long
// time; before it all who come in can stop.
func crossing() api.Map {
	return api.Map{
		Lanes:   []api.Lane{road(of(0, 0, 9000, 0)), road(of(3000, -27000, 3000, 9000))},
		Zones:   []api.Zone{zone(1, part(0, 2900, 3100, 0), part(1, 26900, 27100, 0))},
		Signals: []api.Signal{{Phases: []api.Phase{phase(200, 0), phase(30), phase(200, 1)}}},
	}
}

// beginning returns a state in which a world may begin, and in which the
// vehicle, of some length, stands outside of all zones.
func (d *dice) beginning(m api.Map, size int64) (api.State, bool) {
	route := d.route(m, api.LaneRoad)
	if route == nil || total(m, route) <= size+1 {
		return api.State{}, false
	}
	a := api.Agent{Route: route, Len: size, S: d.roll(size+1, total(m, route))}
	for z := range m.Zones {
		l := passes(m, route, z)
		if len(l) > 0 && l[0].From > size+1 && d.often(50) {
			a.S = l[0].From - d.roll(1, min(900, l[0].From-size-1))
		}
		if len(l) > 0 && a.S >= l[0].From && a.S-size <= l[len(l)-1].To {
			return api.State{}, false
		}
	}
	l := []api.Agent{a}
	for range d.roll(0, 6) {
		other := d.someone(m, d.route(m, 0), 0)
		if _, e := world.New(m, append(slices.Clone(l), other)); e == api.OK && !other.Gone {
			l = append(l, other)
		}
	}
	s, e := world.New(m, l)
	return s, e == api.OK
}

// measure makes what is known of what is measured at a tick, and tests that it
// covers the state.
func (x *trip) measure(t *testing.T, d *dice, s api.State) {
	t.Helper()
	if d.often(90) {
		x.k, _ = track.Speed(x.k, world.Speed(s, d.roll(low/2, far/2)))
		x.k, _ = track.Fix(x.k, world.Fix(s, d.roll(low/2, far/2)))
	}
	if d.often(80) {
		x.k = track.Own(x.m, x.route, x.c.Len, x.k)
		x.k = track.Update(x.m, x.k, world.Sense(x.m, s, d.pick(20000, 90000), d.noise(300)))
		x.k = track.Own(x.m, x.route, x.c.Len, x.k)
	}
	if !track.Covers(x.m, s, x.k) {
		t.Fatal(s, x.k)
	}
}

// P7.12: whoever stands, and goes on with it, is verified on the route, outside
// of all zones, whatever there may be.
func TestStanding(t *testing.T) {
	d := &dice{66}
	count := 0
	for i, x := range trips(t, 67, 5000) {
		x.k.Ego.VLo, x.k.Ego.VHi = 0, 0
		x.p = acts(d.acts(api.Car{Brake: x.c.Brake, Rate: x.c.Rate}, d.roll(-x.c.Brake, 0), d.roll(1, 5))...)
		if d.often(30) {
			x.k = track.All(x.m, x.k.Tick, x.k.Ego)
		}
		free := x.k.Ego.SHi <= total(x.m, x.route)
		for z := range x.m.Zones {
			l := passes(x.m, x.route, z)
			free = free && (len(l) == 0 || x.k.Ego.SHi < l[0].From || x.k.Ego.SLo-x.c.Len > l[len(l)-1].To)
		}
		if f := x.verify(); f.OK != free {
			t.Fatal(i, f, free, x)
		}
		if free {
			count++
		}
	}
	if count < 1000 {
		t.Error(count)
	}
}

// P7.13: a work that is more strict, and a vehicle of which less is known, never
// make a plan verified that was not.
func TestStricterIsNeverVerified(t *testing.T) {
	d := &dice{68}
	strict, wide := 0, 0
	for i, x := range trips(t, 69, 4000) {
		f := x.verify()
		y := x
		y.m = stricter(d, x)
		if g := y.verify(); g.OK && !f.OK {
			t.Fatal(i, f, x, y.m.Works)
		} else if f.OK && !g.OK {
			strict++
		}
		y = x
		e := &y.k.Ego
		e.SLo, e.SHi = max(0, e.SLo-d.pick(0, d.roll(0, 900))), e.SHi+d.pick(0, d.roll(0, 900))
		e.VLo, e.VHi = max(0, e.VLo-d.pick(0, d.roll(0, 90))), min(2000, e.VHi+d.pick(0, d.roll(0, 90)))
		if g := y.verify(); g.OK && !f.OK {
			t.Fatal(i, f, x, y.k)
		} else if f.OK && !g.OK {
			wide++
		}
	}
	if strict < 100 || wide < 100 {
		t.Error("too few plans to show anything:", strict, wide)
	}
}

// stricter returns the map of a trip with works that are more strict.
func stricter(d *dice, x trip) api.Map {
	m := x.m
	m.Works = slices.Clone(m.Works)
	for i := range m.Works {
		w := &m.Works[i]
		w.From, w.To = d.roll(0, w.From), d.roll(w.To, length(m, w.Lane))
		w.Begin, w.End = d.roll(0, w.Begin), w.End+d.roll(0, 50)
		w.Limit = d.pick(w.Limit, d.roll(0, w.Limit))
	}
	lane := x.route[d.roll(0, int64(len(x.route))-1)]
	if n := length(m, lane); len(m.Works) < api.MaxWorks {
		from := d.roll(0, n)
		m.Works = append(m.Works, work(lane, from, d.roll(from, n), x.k.Tick+d.roll(0, 9), x.k.Tick+d.roll(10, 90), d.pick(0, d.roll(0, 2000))))
	}
	return m
}
