package track_test

import (
	"testing"

	"kerbstone/api"
	"kerbstone/track"
	"kerbstone/world"
)

// P1, R5: no arguments make a function panic, or never end.
func TestAnyArguments(t *testing.T) {
	d := &dice{81}
	near := func(n int64) int64 {
		return d.pick(n, n, n, n, n+1, n-1, 0, -1, far, low, api.MaxTick, api.MaxTick+1, d.roll(-9, 9))
	}
	for i, r := range rides(t, 82, 4000) {
		for range d.roll(1, 3) {
			d.spoil(&r, near)
		}
		to, _, e := r.step()
		if e == api.OK && track.Check(r.m, to) != api.OK || e != api.OK && !same(to, api.Know{}) {
			t.Error(i, e, to)
		}
		callAny(d, r, near)
	}
	callAny(d, ride{}, near)
}

// spoil changes something of a ride.
func (d *dice) spoil(r *ride, near func(n int64) int64) {
	if len(r.k.Blobs) == 0 {
		r.k.Blobs = []api.Blob{{}}
	}
	b := &r.k.Blobs[d.roll(0, int64(len(r.k.Blobs))-1)]
	switch d.roll(0, 11) {
	case 0:
		r.k.Tick = near(r.k.Tick)
	case 1:
		r.k.Ego.SLo, r.k.Ego.SHi = near(r.k.Ego.SLo), near(r.k.Ego.SHi)
	case 2:
		r.k.Ego.VLo, r.k.Ego.VHi = near(r.k.Ego.VLo), near(r.k.Ego.VHi)
	case 3:
		b.Lane = int(near(int64(b.Lane)))
	case 4:
		b.Lo = near(b.Lo)
	case 5:
		b.Hi = near(b.Hi)
	case 6:
		b.VLo, b.VHi = near(b.VLo), near(b.VHi)
	case 7:
		b.Hold = near(b.Hold)
	case 8:
		r.size = near(r.size)
	case 9:
		r.route = append(r.route, int(near(1)))
	case 10:
		r.route = []int{int(near(0))}
	case 11:
		r.m = d.town()
	}
}

// callAny calls all functions.
func callAny(d *dice, r ride, near func(n int64) int64) {
	x := api.Scan{Stamp: near(r.k.Tick)}
	var hits []api.Found
	for range d.roll(0, 9) {
		x.Seen = append(x.Seen, span(int(near(1)), near(5), near(500)))
		hits = append(hits, hit(int(near(1)), near(5), near(500), near(5), near(9)))
		x.Points = append(x.Points, api.Point{X: near(3000), Y: near(0), V: near(5)})
	}
	s := api.State{Tick: near(r.k.Tick), Agents: []api.Agent{{Route: r.route, S: near(r.k.Ego.SLo), V: near(r.k.Ego.VLo), Len: near(300)}, {Route: r.route, S: near(9), Len: near(300)}}}
	for _, m := range []api.Map{r.m, {}} {
		track.All(m, near(0), r.k.Ego)
		track.Check(m, r.k)
		track.Own(m, r.route, r.size, r.k)
		track.Step(m, r.route, r.size, r.k, near(0), true)
		track.Found(m, x.Points)
		track.Free(m, x.Seen, hits)
		track.Update(m, r.k, x)
		track.Explained(m, r.k, x.Points)
		track.Covers(m, s, r.k)
	}
	track.Covers(r.m, api.State{}, r.k)
	track.Join(r.k.Blobs)
	track.Speed(r.k, world.Speed(s, near(0)))
	track.Fix(r.k, api.Mark{Stamp: near(r.k.Tick), Lo: near(5), Hi: near(9)})
	track.Inside(r.k, track.Copy(r.k))
	track.Same(r.k, api.Know{})
}
