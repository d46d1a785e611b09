package plan_test

import (
	"testing"

	"kerbstone/api"
	"kerbstone/plan"
)

// P1, R5: no arguments make a function panic, or never end; and whatever they
// are, Verify, Search and Predict return what they should.
func TestAnyArguments(t *testing.T) {
	d := &dice{71}
	near := func(n int64) int64 {
		return d.pick(n, n, n, n, n+1, n-1, 0, -1, far, low, api.MaxTick, api.MaxTick+1, d.roll(-9, 9))
	}
	for i, x := range trips(t, 72, 4000) {
		for range d.roll(1, 3) {
			d.spoil(&x, near)
		}
		if got, want := x.verify(), verified(x.setting, x.p); got != want {
			t.Error(i, got, want, x)
		}
		callAny(d, x, near)
	}
	callAny(d, trip{}, near)
}

// spoil changes something of a trip.
func (d *dice) spoil(x *trip, near func(n int64) int64) {
	if len(x.k.Blobs) == 0 {
		x.k.Blobs = []api.Blob{{}}
	}
	b := &x.k.Blobs[d.roll(0, int64(len(x.k.Blobs))-1)]
	switch d.roll(0, 13) {
	case 0:
		x.k.Tick = near(x.k.Tick)
	case 1:
		x.k.Ego.SLo, x.k.Ego.SHi = near(x.k.Ego.SLo), near(x.k.Ego.SHi)
	case 2:
		x.k.Ego.VLo, x.k.Ego.VHi = near(x.k.Ego.VLo), near(x.k.Ego.VHi)
	case 3:
		b.Lane = int(near(int64(b.Lane)))
	case 4:
		b.Lo, b.Hi = near(b.Lo), near(b.Hi)
	case 5:
		b.VLo, b.VHi, b.Hold = near(b.VLo), near(b.VHi), near(b.Hold)
	case 6:
		x.c.Len, x.c.Accel = near(x.c.Len), near(x.c.Accel)
	case 7:
		x.c.Brake, x.c.Rate = near(x.c.Brake), near(x.c.Rate)
	case 8:
		x.c.Delay = int(near(int64(x.c.Delay)))
	case 9:
		x.route = append(x.route, int(near(1)))
	case 10:
		x.route = []int{int(near(0))}
	case 11:
		x.m = d.town()
	case 12:
		x.p = acts(near(0), near(20), near(-20))
	case 13:
		x.p = acts(append(x.p.Acts, near(plan.Act(x.p, 500)))...)
	}
}

// callAny calls all functions.
func callAny(d *dice, x trip, near func(n int64) int64) {
	var queue []int64
	for range d.roll(0, 7) {
		queue = append(queue, near(-20))
	}
	v, last := near(100), near(0)
	for _, m := range []api.Map{x.m, {}} {
		plan.Least(m, x.route, near(x.k.Ego.SLo), near(x.k.Ego.SHi), near(5))
		plan.Predict(m, x.route, x.c, x.k, x.p, int(near(2)), x.signals)
		plan.Verify(m, x.route, x.c, x.k, x.p, x.signals)
		plan.Search(m, x.route, x.c, x.k, queue, last, int(near(1)), x.signals)
	}
	plan.CheckCar(x.c)
	plan.Check(x.c, x.p)
	plan.Act(x.p, int(near(2)))
	plan.Tail(x.p)
	plan.Ramp(x.c, near(0), near(0))
	plan.Stops(x.c, near(0), v)
	plan.Profile(x.c, queue, last, v, int(near(2)), int(near(2)))
	plan.Candidates(x.c, queue, last, v)
	plan.Way(x.k.Ego, x.p)
	plan.Same(x.p, plan.Tail(x.p))
}
