package plan_test

import (
	"testing"

	"kerbstone/api"
	"kerbstone/plan"
	"kerbstone/roads"
	"kerbstone/track"
)

// trip is a setting with a plan.
type trip struct {
	setting
	p api.Plan
}

// verify verifies the plan of a trip.
func (x trip) verify() api.Finding { return plan.Verify(x.m, x.route, x.c, x.k, x.p, x.signals) }

// trips returns trips on many maps. All that they have is valid.
func trips(t *testing.T, seed uint64, count int) []trip {
	t.Helper()
	d := &dice{seed}
	maps := []func() api.Map{cross, lights, merge, fork}
	var l []trip
	for len(l) < count {
		m := d.town()
		if len(l)%3 == 0 {
			m = maps[len(l)/3%len(maps)]()
		}
		x, ok := d.trip(m)
		if !ok {
			continue
		}
		if e := track.Check(x.m, x.k); e != api.OK || !roads.Fit(x.m) || !isPlan(x.c, x.p) {
			t.Fatal(len(l), e, roads.Check(x.m), x)
		}
		l = append(l, x)
	}
	return l
}

// trip returns a trip on a map, if somebody can drive there.
func (d *dice) trip(m api.Map) (trip, bool) {
	x := trip{setting: setting{m: m, route: d.route(m, api.LaneRoad), c: d.car(), signals: d.often(60)}}
	if x.route == nil {
		return x, false
	}
	v := d.pick(0, 0, d.roll(0, 60), d.roll(0, 300), d.roll(0, 1500), d.roll(0, 2000))
	x.p = d.plan(x.c, v)
	way := plan.Way(ego(0, 0, v, v), x.p)
	x.k = know(d.pick(0, d.roll(0, 90)), d.ego(x, v, way))
	x.limits(d)
	reach := x.k.Ego.SHi + way
	if d.often(25) {
		return x, true
	}
	for lane := range m.Lanes {
		switch n := length(m, lane); {
		case d.often(50):
		case d.often(20):
			x.k.Blobs = append(x.k.Blobs, blob(lane, 0, n, 0, most(m, lane)))
		default:
			x.k.Blobs = append(x.k.Blobs, d.blobs(x, lane, reach)...)
		}
	}
	if d.often(70) {
		x.k = track.Own(m, x.route, x.c.Len, x.k)
	}
	return x, true
}

// most returns the greatest speed on a lane.
func most(m api.Map, lane int) int64 {
	v, _, _ := roads.Bounds(m.Lanes[lane].Kind)
	return v
}

// plan returns a valid plan of a car with a speed; most of them end with a stop.
func (d *dice) plan(c api.Car, v int64) api.Plan {
	last := d.pick(0, 0, d.roll(-c.Brake, c.Accel))
	switch {
	case d.often(10):
		return acts(d.pick(0, -c.Brake, d.roll(-c.Brake, 0)))
	case d.often(10):
		l := append(d.acts(c, last, d.roll(1, 40)), 0)
		return acts(append(l[:len(l)-1], stopped(c, l[len(l)-2], 0)...)...)
	}
	l := profiles(c, d.acts(c, last, d.roll(0, 5)), last, v)
	return l[d.roll(0, int64(len(l))-1)]
}

// ego returns the bounds of a vehicle that will have gone this way: it often
// begins or ends near something.
func (d *dice) ego(x trip, v, way int64) api.Ego {
	end := total(x.m, x.route)
	at := []int64{0, end, d.roll(0, end), d.roll(0, end), x.c.Len + d.roll(0, 300)}
	for _, lane := range x.route {
		at = append(at, start(x.m, x.route, lane))
	}
	for z := range x.m.Zones {
		for _, p := range passes(x.m, x.route, z) {
			at = append(at, p.From, p.From, p.From-1, p.To+x.c.Len, p.To+x.c.Len+1, p.From+d.roll(-900, 900), p.To+x.c.Len+d.roll(-900, 900))
		}
	}
	s := d.pick(at...) + d.pick(0, 0, 1, -1)
	if d.often(60) {
		s -= way
	}
	wide := d.pick(0, 0, d.roll(0, 400), d.roll(0, 2*x.c.Len))
	slow := d.pick(0, 0, d.roll(0, 6), d.roll(0, v))
	if hi := max(0, s); d.often(50) {
		return ego(max(0, hi-wide), hi, max(0, v-slow), v)
	}
	s = max(0, s)
	return ego(s, s+wide, max(0, v-slow), v)
}

// limits often changes the limits of a map so that the plan of a trip just
// keeps them, or just does not.
func (x *trip) limits(d *dice) {
	top, v := int64(0), x.k.Ego.VHi
	speeds := []int64{}
	for _, act := range x.p.Acts {
		v = changed(v, act)
		top, speeds = max(top, v), append(speeds, v)
	}
	for _, lane := range x.route {
		if l := &x.m.Lanes[lane]; d.often(80) {
			l.Limit = min(2000, max(1, d.pick(top, top, top, top-1, top+1, 2000, l.Limit)))
		}
	}
	for range d.roll(-2, 2) {
		if len(x.m.Works) == api.MaxWorks {
			return
		}
		lane := x.route[d.roll(0, int64(len(x.route))-1)]
		n := length(x.m, lane)
		from := min(n, max(0, x.k.Ego.SHi-start(x.m, x.route, lane)+d.roll(-500, 3000)))
		begin := x.k.Tick + d.roll(0, 9)
		limit := min(2000, max(0, speeds[d.roll(0, int64(len(speeds))-1)]-d.roll(0, 1)))
		x.m.Works = append(x.m.Works, work(lane, from, d.pick(from, min(n, from+d.roll(0, 900)), n), begin, begin+d.pick(1, 100, d.roll(1, 40)), limit))
	}
}

// blobs returns some blobs of a lane, often near where the vehicle stops, and at
// zones.
func (d *dice) blobs(x trip, lane int, reach int64) []api.Blob {
	n := length(x.m, lane)
	at := []int64{0, n, d.roll(0, n)}
	if first := start(x.m, x.route, lane); first >= 0 {
		at = append(at, reach-first, reach-first+1, reach-first+1, reach-first+d.roll(0, 3000))
		at = append(at, x.k.Ego.SHi-x.c.Len-first-1, x.k.Ego.SHi-x.c.Len-first-d.roll(1, 500))
	}
	for _, z := range x.m.Zones {
		for _, p := range z.Parts {
			if p.Lane == lane {
				at = append(at, p.From-1, p.From, p.To, p.To+1, p.From-d.roll(1, 600), p.To+d.roll(1, 600))
			}
		}
	}
	v := most(x.m, lane)
	var l []api.Blob
	for range d.roll(1, 3) {
		b := api.Blob{Lane: lane, Lo: min(n, max(0, d.pick(at...)))}
		b.Hi = min(n, b.Lo+d.pick(0, d.roll(0, 600), d.roll(0, 5000)))
		if d.often(30) {
			b.Lo, b.Hi = max(0, b.Lo-d.roll(0, 600)), b.Lo
		}
		b.VLo = d.pick(0, 0, d.roll(0, v))
		b.VHi = d.pick(b.VLo, min(v, b.VLo+10), v)
		b.Hold = d.pick(0, 0, min(n, b.Hi+d.roll(0, 900)))
		l = append(l, b)
	}
	return track.Join(l)
}

// shorter returns something that says more than k: its bounds, and some parts
// of its blobs.
func (d *dice) shorter(m api.Map, k api.Know) api.Know {
	inner := func(lo, hi int64) (int64, int64) {
		a := d.pick(lo, lo, d.roll(lo, hi))
		return a, d.pick(hi, hi, d.roll(a, hi))
	}
	to := api.Know{Tick: k.Tick}
	to.Ego.SLo, to.Ego.SHi = inner(k.Ego.SLo, k.Ego.SHi)
	to.Ego.VLo, to.Ego.VHi = inner(k.Ego.VLo, k.Ego.VHi)
	for _, b := range k.Blobs {
		for lo := b.Lo; lo <= b.Hi && d.often(80); {
			c := b
			c.Lo, c.Hi = inner(lo, b.Hi)
			c.VLo, c.VHi = inner(b.VLo, b.VHi)
			if n := length(m, b.Lane); b.Hold == 0 {
				c.Hold = d.pick(0, d.roll(0, n), min(n, c.Hi+1))
			} else {
				c.Hold = d.pick(b.Hold, d.roll(1, b.Hold))
			}
			to.Blobs = append(to.Blobs, c)
			lo = c.Hi + d.pick(2, d.roll(2, 500))
		}
	}
	return to
}

// P7.4: Verify finds what a plain second computation finds.
func TestVerifyOfTrips(t *testing.T) {
	late := map[api.Finding]int{}
	whys := map[int]int{}
	for i, x := range trips(t, 11, 9000) {
		got, want := x.verify(), verified(x.setting, x.p)
		if got != want {
			t.Fatal(i, got, want, x)
		}
		whys[got.Why]++
		if got.At > 3 {
			late[finding(0, got.Why)]++
		}
	}
	for _, why := range []int{0, api.WhyLimit, api.WhyRoute, api.WhyAhead, api.WhyZone, api.WhySignal, api.WhyEnd} {
		if whys[why] < 120 || why != 0 && late[finding(0, why)] < 10 {
			t.Error("too few trips to show anything:", why, whys, late)
		}
	}
}
