package plan_test

import (
	"slices"
	"testing"

	"kerbstone/api"
	"kerbstone/plan"
)

// verdict is a trip, and what is found.
type verdict struct {
	trip
	want api.Finding
}

// on makes a verdict of the car of the examples on the lane 0 of a map.
func on(m api.Map, k api.Know, p api.Plan, want api.Finding) verdict {
	return verdict{trip{setting{m, []int{0}, car(), k, true}, p}, want}
}

// along makes a verdict of that car on a route.
func along(m api.Map, route []int, k api.Know, p api.Plan, want api.Finding) verdict {
	v := on(m, k, p, want)
	v.route = route
	return v
}

// holds tests verdicts.
func holds(t *testing.T, l []verdict) {
	t.Helper()
	for i, v := range l {
		if got := v.verify(); got != v.want || verified(v.setting, v.p) != v.want {
			t.Error(i, got, v.want)
		}
	}
}

// at makes what is known of a vehicle at a place at the tick 0, with a speed.
func at(s, v int64, l ...api.Blob) api.Know { return know(0, ego(s, s, v, v), l...) }

// halt is a plan that goes on for a tick, and then stops from a speed of 20.
func halt() api.Plan { return acts(0, -20) }

// P7.4: what is not valid has no act that is wrong.
func TestVerifyForm(t *testing.T) {
	ranks := cross()
	ranks.Zones[0].Parts[0].Rank = 0
	good := at(10000, 0)
	holds(t, []verdict{
		on(cross(), good, acts(0), fine()),
		on(ranks, good, acts(0), finding(0, api.WhyForm)), on(api.Map{}, good, acts(0), finding(0, api.WhyForm)),
		along(cross(), nil, good, acts(0), finding(0, api.WhyForm)), along(cross(), []int{0, 1}, good, acts(0), finding(0, api.WhyForm)), along(cross(), []int{2}, good, acts(0), finding(0, api.WhyForm)), along(merge(), []int{2}, good, acts(0), finding(0, api.WhyForm)),
		along(fork(), []int{6, 7}, good, acts(0), finding(0, api.WhyForm)), along(fork(), []int{6}, at(400, 0), acts(0), finding(0, api.WhyForm)), along(fork(), []int{8}, at(1900, 0), acts(0), finding(0, api.WhyForm)),
		on(cross(), good, acts(), finding(0, api.WhyForm)), on(cross(), good, acts(1), finding(0, api.WhyForm)), on(cross(), good, acts(-61), finding(0, api.WhyForm)), on(cross(), good, acts(0, -31), finding(0, api.WhyForm)), on(cross(), good, acts(some(200, 0)...), fine()), on(cross(), good, acts(some(201, 0)...), finding(0, api.WhyForm)),
		on(cross(), at(-1, 0), acts(0), finding(0, api.WhyForm)), on(cross(), at(10000, 2001), acts(0), finding(0, api.WhyForm)), on(cross(), at(10000, 0, blob(2, 0, 0)), acts(0), finding(0, api.WhyForm)), on(cross(), at(10000, 0, blob(1, 0, 0), blob(0, 0, 0)), acts(0), finding(0, api.WhyForm)), on(cross(), know(-1, good.Ego), acts(0), finding(0, api.WhyForm)),
		on(cross(), at(api.MaxTick, 30), acts(0, -30), finding(0, api.WhyForm)),
	})
	for i, c := range flawed() {
		v := on(cross(), good, acts(0), finding(0, api.WhyForm))
		if v.c = c; v.verify() != v.want {
			t.Error(i)
		}
	}
}

// P7.4: an act behind the last tick has no step; what is wrong before it is
// found before.
func TestVerifyAtTheLastTick(t *testing.T) {
	late := func(left int64, s, v int64) api.Know { return know(api.MaxTick-left, ego(s, s, v, v)) }
	holds(t, []verdict{
		on(straight(), late(2, 10000, 20), halt(), fine()),
		on(straight(), late(1, 10000, 20), halt(), finding(0, api.WhyForm)),
		on(straight(), late(0, 10000, 20), halt(), finding(0, api.WhyForm)),
		on(straight(), late(0, 10000, 0), acts(0), finding(0, api.WhyForm)),
		on(straight(), late(1, 10000, 0), acts(0), fine()),
		on(straight(), late(1, 10000, 20), acts(0), finding(1, api.WhyEnd)),
		on(straight(), late(1, 99990, 20), halt(), finding(1, api.WhyRoute)),
		on(straight(), late(2, 99990, 20), acts(0, 0, -20), finding(1, api.WhyRoute)),
		on(straight(), late(2, 99970, 20), acts(0, 0, -20), finding(2, api.WhyRoute)),
		on(straight(), late(2, 99950, 20), acts(0, 0, -20), finding(0, api.WhyForm)),
	})
}

// WhyRoute: SHi' is at most the length of the route.
func TestVerifyRoute(t *testing.T) {
	holds(t, []verdict{
		on(straight(), at(100000, 0), acts(0), fine()), on(straight(), at(100001, 0), acts(0), finding(1, api.WhyRoute)),
		on(straight(), at(99980, 20), halt(), fine()), on(straight(), at(99981, 20), halt(), finding(1, api.WhyRoute)), on(straight(), at(99980, 20), acts(0, -19, -1), finding(2, api.WhyRoute)),
		on(straight(), know(0, ego(50000, 99980, 0, 20)), halt(), fine()), on(straight(), know(0, ego(50000, 99981, 0, 20)), halt(), finding(1, api.WhyRoute)),
		along(merge(), []int{0, 2}, at(59980, 20), halt(), fine()), along(merge(), []int{0, 2}, at(59981, 20), halt(), finding(1, api.WhyRoute)), along(merge(), []int{1, 2}, at(55980, 20), halt(), fine()), along(merge(), []int{1, 2}, at(55981, 20), halt(), finding(1, api.WhyRoute)),
		along(merge(), []int{0}, at(24900, 20), halt(), fine()), along(merge(), []int{0}, at(30001, 0), acts(0), finding(1, api.WhyRoute)),
		on(straight(), at(api.MaxTick, 0), acts(0), finding(1, api.WhyRoute)),
	})
}

// WhyLimit: VHi' is at most the limit at all places from SLo' to SHi', at the
// tick behind the act.
func TestVerifyLimit(t *testing.T) {
	k := know(7, ego(10000, 10100, 100, 120))
	p := acts(0, -30, -60, -30)
	limited := func(from, to, begin, end, limit int64, want api.Finding) verdict {
		return on(straight(work(0, from, to, begin, end, limit)), k, p, want)
	}
	slow := straight()
	slow.Lanes[0].Limit = 119
	equal := straight()
	equal.Lanes[0].Limit = 120
	holds(t, []verdict{
		on(straight(), k, p, fine()), on(slow, k, p, finding(1, api.WhyLimit)), on(equal, k, p, fine()), on(slow, k, acts(-1, -31, -60, -30), fine()),
		// Behind the first act it is from 10100 to 10220, at the tick 8.
		limited(0, 100000, 0, 100, 120, fine()), limited(0, 100000, 0, 100, 119, finding(1, api.WhyLimit)),
		limited(10100, 10100, 0, 100, 119, finding(1, api.WhyLimit)), limited(0, 10099, 0, 100, 119, fine()), limited(10220, 10220, 0, 100, 119, finding(1, api.WhyLimit)), limited(10221, 20000, 0, 100, 119, fine()), limited(10150, 10160, 0, 100, 119, finding(1, api.WhyLimit)),
		limited(10100, 10100, 8, 9, 119, finding(1, api.WhyLimit)), limited(10100, 10100, 7, 8, 119, fine()), limited(10100, 10100, 9, 10, 119, fine()),
		// Behind the second one from 10170 to 10310, with a speed of 90; then from 10180 to 10340, with 30.
		limited(10311, 10340, 0, 100, 30, fine()), limited(10311, 10340, 0, 100, 29, finding(3, api.WhyLimit)), limited(10310, 10310, 0, 100, 89, finding(2, api.WhyLimit)), limited(10310, 10310, 0, 100, 90, fine()), limited(10310, 10310, 10, 11, 29, finding(3, api.WhyLimit)), limited(10310, 10310, 9, 10, 90, fine()), limited(10341, 10341, 0, 100, 0, fine()), limited(10340, 10340, 0, 100, 0, finding(3, api.WhyLimit)), limited(10340, 10340, 11, 12, 0, fine()),
		limited(10180, 10180, 10, 11, 29, finding(3, api.WhyLimit)), limited(10179, 10179, 10, 11, 29, fine()),
	})
	// A coordinate where a lane begins is on both lanes.
	joint := func(s int64, w api.Work, want api.Finding) verdict {
		m := merge()
		m.Zones[0].Signal, m.Works = 0, []api.Work{w}
		return along(m, []int{0, 2}, at(s, 20), acts(0, -20, 0), want)
	}
	holds(t, []verdict{
		joint(29980, work(2, 0, 0, 0, 9, 19), finding(1, api.WhyLimit)), joint(29979, work(2, 0, 0, 0, 9, 19), finding(3, api.WhyEnd)), joint(29980, work(0, 30000, 30000, 0, 9, 19), finding(1, api.WhyLimit)), joint(29981, work(0, 30000, 30000, 0, 9, 19), finding(3, api.WhyEnd)), joint(29981, work(2, 1, 1, 0, 9, 19), finding(1, api.WhyLimit)), joint(29980, work(1, 26000, 26000, 0, 9, 0), finding(3, api.WhyEnd)),
	})
}

// WhyAhead: nobody may have passed a place that the vehicle reaches, while it
// moves.
func TestVerifyAhead(t *testing.T) {
	ahead := func(lo int64, p api.Plan, want api.Finding) verdict {
		return on(straight(), at(10000, 20, blob(0, lo, 99000)), p, want)
	}
	second := func(lo int64, want api.Finding) verdict {
		m := merge()
		m.Zones[0].Parts[2].To = 10
		return along(m, []int{0, 2}, at(34500, 20, blob(2, lo, 30000)), halt(), want)
	}
	holds(t, []verdict{
		ahead(10021, halt(), fine()), ahead(10020, halt(), finding(1, api.WhyAhead)), ahead(10001, halt(), finding(1, api.WhyAhead)), ahead(10001, acts(-20), fine()),
		ahead(10021, acts(0, -19, -1), finding(2, api.WhyAhead)), ahead(10022, acts(0, -19, -1), fine()), ahead(10041, acts(0, 0, -20), fine()), ahead(10040, acts(0, 0, -20), finding(2, api.WhyAhead)),
		// Who stands hits nobody.
		on(straight(), at(10000, 0, blob(0, 10001, 10001)), acts(0), fine()), on(straight(), at(10000, 0, blob(0, 0, 100000)), acts(0), fine()), on(straight(), know(0, ego(8000, 13000, 0, 0), blob(0, 0, 100000)), acts(0), fine()),
		on(straight(), know(0, ego(10000, 10000, 0, 1), blob(0, 10000, 10001)), acts(0, -20), finding(1, api.WhyAhead)),
		// The greatest S counts, and the least offset of a sweep: who moves is not ahead of where it was.
		on(straight(), know(0, ego(9000, 10000, 0, 20), blob(0, 10020, 10020, 2000, 2000)), halt(), finding(1, api.WhyAhead)), on(straight(), know(0, ego(9000, 10000, 0, 20), blob(0, 10021, 10021, 2000, 2000)), halt(), fine()),
		// Who is behind stays there; without a gap nobody is known to be behind.
		on(straight(), at(10000, 20, blob(0, 0, 5999, 0, 2000)), halt(), fine()), on(straight(), know(0, ego(9000, 13001, 0, 20), blob(0, 0, 8999, 0, 2000)), halt(), finding(1, api.WhyAhead)), on(straight(), know(0, ego(9000, 13000, 0, 20), blob(0, 0, 8999, 0, 2000)), halt(), fine()),
		// On the second lane of the route, and on others.
		second(4521, fine()), second(4520, finding(1, api.WhyAhead)),
		along(cross(), []int{1}, at(10000, 20, blob(0, 10000, 10000)), halt(), fine()), along(cross(), []int{1}, at(10000, 20, blob(1, 10010, 10010)), halt(), finding(1, api.WhyAhead)),
	})
}

// WhyZone: nobody with another entry may have passed a part of a zone in which
// the vehicle may be.
func TestVerifyZone(t *testing.T) {
	other := func(s int64, lo, hi int64, p api.Plan, want api.Finding) verdict {
		return on(cross(), at(s, 20, blob(1, lo, hi)), p, want)
	}
	two := func(s int64, k api.Blob, want api.Finding) verdict {
		return along(merge(), []int{0, 2}, at(s, 0, k), acts(0), want)
	}
	holds(t, []verdict{
		// The vehicle may be present from 47980 to 56000, and behind the zone at 56001.
		other(47980, 48000, 48000, halt(), finding(1, api.WhyZone)), other(47979, 48000, 48000, halt(), fine()), other(56000, 50000, 50000, halt(), finding(1, api.WhyZone)), other(56001, 50000, 50000, halt(), fine()),
		other(47979, 50000, 50000, acts(0, -19, 0, -1), finding(2, api.WhyZone)), other(47979, 47000, 47000, acts(0, -19, 0, -1), finding(4, api.WhyEnd)), other(56000, 47000, 47000, halt(), fine()),
		// It may be there before the act, or behind it.
		on(cross(), know(0, ego(56000, 59000, 20, 20), blob(1, 52000, 52000)), halt(), finding(1, api.WhyZone)), on(cross(), know(0, ego(56001, 59000, 20, 20), blob(1, 52000, 52000)), halt(), fine()), on(cross(), know(0, ego(45000, 47980, 0, 20), blob(1, 52000, 52000)), halt(), finding(1, api.WhyZone)),
		// Who comes from 47969 has at most 30 in a tick.
		on(cross(), at(50000, 0, blob(1, 47969, 47969)), acts(0, 0, 0), finding(2, api.WhyZone)), on(cross(), at(50000, 0, blob(1, 47970, 47970)), acts(0, 0, 0), finding(1, api.WhyZone)), other(50000, 52001, 52500, halt(), finding(2, api.WhyEnd)), other(50000, 52000, 52500, halt(), finding(1, api.WhyZone)),
		// Those on the entry of the route itself do not matter, if they are not ahead.
		on(cross(), at(50000, 20, blob(0, 51000, 51000)), halt(), finding(2, api.WhyEnd)), on(cross(), at(53000, 20, blob(0, 48500, 48900)), halt(), finding(2, api.WhyEnd)),
		// Standing is no help.
		on(cross(), at(50000, 0, blob(1, 50000, 50000)), acts(0), finding(1, api.WhyZone)),
		// On the merge the lane 1, and the lane 2 as well; not the entry 0.
		two(27000, blob(1, 21000, 21000), finding(1, api.WhyZone)), two(27000, blob(2, 4000, 5000), finding(1, api.WhyZone)), two(27000, blob(2, 5001, 6000), finding(1, api.WhyEnd)), two(27000, blob(0, 29000, 29000), finding(1, api.WhyEnd)), two(27000, blob(1, 19000, 19000), finding(1, api.WhyEnd)),
		// Who is behind the vehicle stays there.
		two(38000, blob(2, 3000, 3500, 0, 100), finding(1, api.WhyEnd)), two(34000, blob(2, 4500, 5000), finding(1, api.WhyZone)), two(39000, blob(2, 0, 4999), finding(1, api.WhyEnd)), two(39001, blob(2, 0, 5000), fine()), two(39000, blob(1, 25990, 26000, 0, 2000), finding(1, api.WhyZone)),
	})
}

// WhySignal: it is green, before the act, wherever the vehicle may enter.
func TestVerifySignal(t *testing.T) {
	enter := func(tick int64, x api.Ego, p api.Plan, want api.Finding) verdict {
		return on(lights(), know(tick, x), p, want)
	}
	go2 := acts(0, 0, -20)
	holds(t, []verdict{
		// It enters with the first act, at 48000.
		enter(9, ego(47980, 47980, 20, 20), halt(), finding(2, api.WhyEnd)), enter(10, ego(47980, 47980, 20, 20), halt(), finding(1, api.WhySignal)), enter(24, ego(47980, 47980, 20, 20), halt(), finding(1, api.WhySignal)), enter(25, ego(47980, 47980, 20, 20), halt(), finding(2, api.WhyEnd)),
		enter(10, ego(47979, 47979, 20, 20), halt(), fine()),
		// With the second one.
		enter(8, ego(47960, 47960, 20, 20), go2, finding(3, api.WhyEnd)), enter(9, ego(47960, 47960, 20, 20), go2, finding(2, api.WhySignal)), enter(23, ego(47960, 47960, 20, 20), go2, finding(2, api.WhySignal)), enter(24, ego(47960, 47960, 20, 20), go2, finding(3, api.WhyEnd)),
		// Who is in it does not enter; who may not be in it yet may.
		enter(12, ego(48000, 48000, 20, 20), halt(), finding(2, api.WhyEnd)), enter(12, ego(47999, 48500, 20, 20), halt(), finding(1, api.WhySignal)), enter(12, ego(48000, 48500, 20, 20), halt(), finding(2, api.WhyEnd)), enter(12, ego(47999, 47999, 0, 0), acts(0), fine()), enter(12, ego(40000, 48000, 0, 0), acts(0), finding(1, api.WhySignal)),
		enter(12, ego(58000, 58000, 20, 20), halt(), fine()),
	})
	// It does not matter what others are assumed to do.
	for _, signals := range []bool{true, false} {
		if f := plan.Verify(lights(), []int{0}, car(), know(12, ego(47980, 47980, 20, 20)), halt(), signals); f != finding(1, api.WhySignal) {
			t.Error(signals, f)
		}
	}
	// On the merge the entry is what has to be green, at the first pass.
	m := merge()
	m.Zones[0].Signal, m.Signals = 1, []api.Signal{{Phases: []api.Phase{phase(10, 1, 2), phase(10, 0)}}}
	holds(t, []verdict{
		along(m, []int{0, 2}, know(0, ego(24980, 24980, 20, 20)), halt(), finding(1, api.WhySignal)), along(m, []int{0, 2}, know(10, ego(24980, 24980, 20, 20)), halt(), finding(2, api.WhyEnd)), along(m, []int{1, 2}, know(0, ego(19980, 19980, 20, 20)), halt(), finding(2, api.WhyEnd)), along(m, []int{1, 2}, know(10, ego(19980, 19980, 20, 20)), halt(), finding(1, api.WhySignal)),
		along(m, []int{0, 2}, know(0, ego(29980, 29980, 20, 20)), halt(), finding(2, api.WhyEnd)),
	})
}

// Whether signals are obeyed decides what the others do.
func TestVerifyAssumesSignals(t *testing.T) {
	for _, x := range []struct {
		signals bool
		want    api.Finding
	}{{true, finding(1, api.WhyEnd)}, {false, finding(1, api.WhyZone)}} {
		if f := plan.Verify(lights(), []int{0}, car(), at(50000, 0, blob(1, 47980, 47990)), acts(0), x.signals); f != x.want {
			t.Error(x.signals, f)
		}
	}
}

// WhyEnd: behind the last act the vehicle stands, outside of all zones.
func TestVerifyEnd(t *testing.T) {
	holds(t, []verdict{
		on(straight(), at(10000, 20), acts(0), finding(1, api.WhyEnd)), on(straight(), at(10000, 20), acts(0, 0, -19), finding(3, api.WhyEnd)), on(straight(), at(10000, 20), acts(0, 0, -20), fine()), on(straight(), know(0, ego(10000, 10000, 0, 20)), acts(-19), finding(1, api.WhyEnd)),
		on(cross(), at(47999, 0), acts(0), fine()), on(cross(), at(48000, 0), acts(0), finding(1, api.WhyEnd)), on(cross(), at(56000, 0), acts(0), finding(1, api.WhyEnd)), on(cross(), at(56001, 0), acts(0), fine()), on(cross(), at(50000, 0), acts(0, 0, 0), finding(3, api.WhyEnd)),
		on(cross(), know(0, ego(40000, 47999, 0, 0)), acts(0), fine()), on(cross(), know(0, ego(40000, 48000, 0, 0)), acts(0), finding(1, api.WhyEnd)), on(cross(), know(0, ego(56001, 90000, 0, 0)), acts(0), fine()), on(cross(), know(0, ego(56000, 90000, 0, 0)), acts(0), finding(1, api.WhyEnd)),
		on(cross(), at(47979, 20), halt(), fine()), on(cross(), at(47980, 20), halt(), finding(2, api.WhyEnd)), on(cross(), at(55980, 20), halt(), finding(2, api.WhyEnd)), on(cross(), at(55981, 20), halt(), fine()),
		// All that is from the first pass to the last one belongs to the zone.
		along(merge(), []int{0, 2}, at(24999, 0), acts(0), fine()), along(merge(), []int{0, 2}, at(25000, 0), acts(0), finding(1, api.WhyEnd)), along(merge(), []int{0, 2}, at(39000, 0), acts(0), finding(1, api.WhyEnd)), along(merge(), []int{0, 2}, at(39001, 0), acts(0), fine()), along(merge(), []int{1, 2}, at(34999, 0), acts(0), finding(1, api.WhyEnd)), along(merge(), []int{1, 2}, at(35001, 0), acts(0), fine()),
		along(merge(), []int{0}, at(30000, 0), acts(0), finding(1, api.WhyEnd)),
	})
}

// The first act that is wrong counts, and of an act the first thing that is.
func TestVerifyOrder(t *testing.T) {
	// With the act 1 all is wrong: the route is too short, a work has no limit,
	// somebody is ahead, somebody is in the zone, and it is red.
	m := lights()
	m.Zones[0].Parts[0] = part(0, 99990, 100000, 1)
	all := func(changes ...func(m *api.Map, k *api.Know)) verdict {
		v := on(m, know(12, ego(99985, 99985, 20, 20), blob(0, 100000, 100000), blob(1, 50000, 50000)), acts(0), fine())
		v.m.Works = []api.Work{work(0, 0, 100000, 0, 100, 0)}
		v.m.Lanes, v.m.Zones = slices.Clone(m.Lanes), slices.Clone(m.Zones)
		for _, change := range changes {
			change(&v.m, &v.k)
		}
		return v
	}
	shorter := func(m *api.Map, k *api.Know) { k.Ego.SLo, k.Ego.SHi = 99980, 99980 }
	free := func(m *api.Map, k *api.Know) { m.Works = nil }
	open := func(m *api.Map, k *api.Know) { k.Blobs = k.Blobs[1:] }
	empty := func(m *api.Map, k *api.Know) { k.Blobs = nil }
	green := func(m *api.Map, k *api.Know) { k.Tick = 25 }
	for i, x := range []struct {
		v    verdict
		want int
	}{
		{all(), api.WhyRoute}, {all(shorter), api.WhyLimit}, {all(shorter, free), api.WhyAhead}, {all(shorter, free, open), api.WhyZone}, {all(shorter, free, open, empty), api.WhySignal}, {all(shorter, free, open, empty, green), api.WhyEnd},
	} {
		if f := x.v.verify(); f != finding(1, x.want) || verified(x.v.setting, x.v.p) != f {
			t.Error(i, f)
		}
	}
	// What is wrong with an act before is found before.
	holds(t, []verdict{
		on(straight(work(0, 0, 100000, 3, 4, 19)), at(99961, 20), acts(0, 0, 0, -20), finding(2, api.WhyRoute)),
		on(straight(work(0, 0, 100000, 1, 4, 19)), at(99961, 20), acts(0, 0, 0, -20), finding(1, api.WhyLimit)),
		on(straight(), at(99961, 20, blob(0, 99990, 100000)), acts(0, 0, 0, -20), finding(2, api.WhyRoute)),
		on(straight(), at(99961, 20, blob(0, 99981, 100000)), acts(0, 0, 0, -20), finding(1, api.WhyAhead)),
	})
}
