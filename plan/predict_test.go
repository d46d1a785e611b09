package plan_test

import (
	"testing"

	"kerbstone/api"
	"kerbstone/plan"
	"kerbstone/roads"
	"kerbstone/track"
)

// works is the merge with other limits and some works.
func works() api.Map {
	m := merge()
	m.Lanes[0].Limit, m.Lanes[2].Limit = 900, 1200
	m.Works = []api.Work{
		work(0, 10000, 20000, 5, 9, 300), work(0, 15000, 15000, 0, 100, 200), work(0, 30000, 30000, 50, 60, 100),
		work(2, 0, 0, 70, 80, 50), work(2, 1000, 30000, 90, 91, 0), work(1, 0, 26000, 0, 100, 7),
	}
	return m
}

// P7.3
func TestLeast(t *testing.T) {
	for i, x := range []struct{ from, to, tick, want int64 }{
		{0, 60000, 0, 200}, {0, 14999, 0, 900}, {0, 15000, 0, 200}, {15000, 15000, 0, 200}, {15001, 15001, 0, 900}, {14999, 15001, 99, 200}, {14999, 15001, 100, 900}, {14999, 15001, -1, 900}, {14999, 15001, low, 900}, {14999, 15001, far, 900},
		// From its first place on, and at its ticks.
		{0, 9999, 5, 900}, {0, 10000, 5, 300}, {0, 10000, 4, 900}, {0, 10000, 8, 300}, {0, 10000, 9, 900}, {20000, 20000, 5, 300}, {20001, 20001, 5, 900}, {12000, 13000, 5, 300}, {0, 40000, 5, 200},
		// A coordinate where a lane begins is on both lanes.
		{0, 100, 0, 900}, {29999, 29999, 50, 900}, {30000, 30000, 50, 100}, {30001, 30001, 50, 1200}, {29999, 29999, 70, 900}, {30000, 30000, 70, 50}, {30001, 30001, 70, 1200}, {30000, 30000, 0, 900}, {30001, 60000, 0, 1200}, {29999, 30001, 69, 900},
		{60000, 60000, 90, 0}, {31000, 31000, 90, 0}, {30999, 30999, 90, 1200}, {60000, 60000, 91, 1200}, {0, 0, 0, 900},
		{-1, 5, 0, 0}, {0, 60001, 0, 0}, {60001, 60001, 0, 0}, {6, 5, 0, 0}, {-5, -4, 0, 0}, {low, far, 0, 0}, {0, far, 0, 0}, {low, 0, 0, 0}, {far, low, 0, 0},
	} {
		if least := plan.Least(works(), []int{0, 2}, x.from, x.to, x.tick); least != x.want {
			t.Error(i, least)
		}
	}
	for i, route := range [][]int{nil, {2}, {0, 1}, {3}, {-1}, {0, 2, 2}, {2, 0}} {
		if least := plan.Least(works(), route, 0, 100, 0); least != 0 {
			t.Error(i, least)
		}
	}
	if plan.Least(api.Map{}, []int{0}, 0, 100, 0) != 0 || plan.Least(works(), []int{1, 2}, 0, 26000, 0) != 7 || plan.Least(works(), []int{0}, 0, 30001, 0) != 0 {
		t.Error("Least")
	}
	// Neither must the map fit, nor the lanes be roads.
	m := cross()
	m.Zones[0].Parts[0].Rank = 0
	if plan.Least(m, []int{0}, 0, 100000, 0) != 1500 || roads.Fit(m) || plan.Least(fork(), []int{6, 7}, 0, 6000, 0) != 100 || plan.Least(fork(), []int{8}, 5, 5, 0) != 100 {
		t.Error("Least")
	}
}

// P7.3: Least is the least limit of all places, place by place.
func TestLeastOfAnyRoutes(t *testing.T) {
	d := &dice{41}
	reduced := 0
	for i := range 8000 {
		m := d.town()
		route := d.route(m, 0)
		end := total(m, route)
		at := []int64{0, end, d.roll(0, end)}
		tick := d.roll(0, 130)
		for _, w := range m.Works {
			if s := start(m, route, w.Lane); s >= 0 {
				at = append(at, s+w.From, s+w.From-1, s+w.To, s+w.To+1, s)
				tick = d.pick(tick, w.Begin, w.Begin-1, w.End, w.End-1)
			}
		}
		from := d.pick(at...)
		to := d.pick(from, d.pick(at...), d.pick(at...), from+d.roll(0, 300))
		want := slowest(m, route, from, to, tick)
		if from < 0 || to > end || from > to {
			want = 0
		}
		if least := plan.Least(m, route, from, to, tick); least != want {
			t.Fatal(i, m.Works, route, from, to, tick, least, want)
		}
		m.Works = nil
		if from >= 0 && from <= to && to <= end && want < slowest(m, route, from, to, tick) {
			reduced++
		}
	}
	if reduced < 200 {
		t.Error(reduced)
	}
}

// P7.3
func TestPredictErrors(t *testing.T) {
	bad := car()
	bad.Rate = 4
	good := know(5, ego(10000, 10010, 100, 100), blob(0, 20000, 30000, 0, 50))
	wrong := good
	wrong.Ego.VHi = 99
	for i, x := range []struct {
		m     api.Map
		route []int
		c     api.Car
		k     api.Know
		n     int
		want  api.Errno
	}{
		{cross(), []int{0}, car(), good, 200, api.OK}, {cross(), []int{0}, car(), good, 0, api.OK}, {cross(), []int{0}, car(), good, 1, api.OK},
		{cross(), []int{0}, bad, good, 1, api.ErrRange}, {api.Map{}, []int{0}, bad, good, 1, api.ErrRange}, {cross(), nil, bad, good, 1, api.ErrRange},
		{cross(), []int{0}, car(), good, -1, api.ErrRange}, {cross(), []int{0}, car(), good, 201, api.ErrRange}, {cross(), []int{0}, car(), good, low, api.ErrRange}, {cross(), []int{0}, car(), good, far, api.ErrRange},
		{api.Map{}, []int{0}, car(), good, 201, api.ErrRange}, {cross(), nil, car(), good, -1, api.ErrRange},
		{api.Map{}, []int{0}, car(), good, 1, api.ErrShort}, {cross(), nil, car(), good, 1, api.ErrRoute}, {cross(), []int{0, 1}, car(), good, 1, api.ErrRoute}, {cross(), []int{0}, car(), wrong, 1, api.ErrRange}, {cross(), []int{0}, car(), know(5, good.Ego, blob(2, 0, 0)), 1, api.ErrMissing}, {cross(), []int{0}, car(), know(5, good.Ego, blob(1, 0, 0), blob(0, 0, 0)), 1, api.ErrOrder},
		{cross(), []int{0}, car(), know(api.MaxTick-3, good.Ego), 3, api.OK}, {cross(), []int{0}, car(), know(api.MaxTick-3, good.Ego), 4, api.ErrRange}, {cross(), []int{0}, car(), know(api.MaxTick, good.Ego), 1, api.ErrRange},
		{cross(), []int{0}, car(), know(0, ego(0, api.MaxTick-30, 0, 20)), 1, api.OK}, {cross(), []int{0}, car(), know(0, ego(0, api.MaxTick-30, 0, 20)), 2, api.ErrRange},
	} {
		l, e := plan.Predict(x.m, x.route, x.c, x.k, acts(0), x.n, true)
		if e != x.want || e != api.OK && l != nil || e == api.OK && len(l) != x.n {
			t.Error(i, e, len(l))
		}
	}
	// Without a step there is nothing that could be wrong with it.
	if l, e := plan.Predict(api.Map{}, nil, car(), wrong, api.Plan{}, 0, true); e != api.OK || len(l) > 0 {
		t.Error(e, l)
	}
}

// P7.3
func TestPredict(t *testing.T) {
	d := &dice{42}
	for i, x := range trips(t, 43, 600) {
		if i%20 == 0 {
			// Neither must the plan be valid, nor the lanes be roads.
			x.p = acts(d.noise(d.roll(0, 6))...)
		}
		if other := d.route(x.m, 0); i%7 == 0 {
			x.route = other
		}
		n := int(d.pick(0, 1, int64(len(x.p.Acts)), d.roll(0, 40), 200))
		l, e := plan.Predict(x.m, x.route, x.c, x.k, x.p, n, x.signals)
		if e != api.OK || len(l) != n {
			t.Fatal(i, e, len(l), n)
		}
		k := x.k
		for at, got := range l {
			var act int64
			if len(x.p.Acts) > 0 {
				act = x.p.Acts[min(at, len(x.p.Acts)-1)]
			}
			k, _, e = track.Step(x.m, x.route, x.c.Len, k, act, x.signals)
			if e != api.OK || !track.Same(got, k) {
				t.Fatal(i, at, e, got, k)
			}
		}
	}
}

// P7.3: the example of the document's last section: the other one at the tick 2.
func TestPredictExample(t *testing.T) {
	k := know(1, ego(10000, 10000, 0, 0), blob(0, 26000, 30200, 95, 105), blob(0, 31001, 100000, 0, 2000))
	c := car()
	c.Delay = 0
	l, e := plan.Predict(straight(), []int{0}, c, k, acts(20, 0), 2, true)
	if e != api.OK || len(l) != 2 || l[0].Ego != ego(10020, 10020, 20, 20) || l[1].Ego != ego(10040, 10040, 20, 20) || l[1].Tick != 3 {
		t.Fatal(e, l)
	}
	if b := l[0].Blobs[1]; b != blob(0, 26005, 30335, 5, 135) {
		t.Error(b)
	}
}
