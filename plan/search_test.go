package plan_test

import (
	"slices"
	"testing"

	"kerbstone/api"
	"kerbstone/plan"
)

// searched looks for the first candidate that is verified.
func searched(x setting, queue []int64, last int64, budget int) (api.Plan, int, bool) {
	looked := 0
	if isCar(x.c) {
		for _, p := range profiles(x.c, queue, last, x.k.Ego.VHi) {
			if looked >= budget {
				break
			}
			if looked++; verified(x, p).OK {
				return p, looked, true
			}
		}
	}
	return api.Plan{}, looked, false
}

// search searches for a plan in a setting.
func (x setting) search(queue []int64, last int64, budget int) (api.Plan, int, bool) {
	return plan.Search(x.m, x.route, x.c, x.k, queue, last, budget, x.signals)
}

// P7.6
func TestSearch(t *testing.T) {
	quick := car()
	quick.Delay = 0
	clear := setting{straight(), []int{0}, quick, at(10000, 0), true}
	// Each of the candidates in its turn is the first one that is verified, if
	// somebody stands directly behind where it ends.
	for i := range 8 {
		var v int64
		if i == 7 {
			v = 60
		}
		p := profiles(quick, nil, 0, v)[i]
		x := clear
		x.k = at(10000, v, blob(0, 10001+plan.Way(ego(0, 0, v, v), p), 100000))
		for budget := -1; budget <= 9; budget++ {
			got, looked, ok := x.search(nil, 0, budget)
			if found := budget > i; ok != found || looked != max(0, min(budget, i+1)) || found && !plan.Same(got, p) || !found && len(got.Acts) > 0 {
				t.Error(i, budget, got, looked, ok)
			}
		}
	}
	blocked := clear
	blocked.k = at(100001, 0)
	for _, budget := range []int{low, -1, 0, 1, 5, 7, 8, 9, far} {
		if p, looked, ok := blocked.search(nil, 0, budget); ok || len(p.Acts) > 0 || looked != min(8, max(0, budget)) {
			t.Error(budget, p, looked, ok)
		}
	}
}

// P7.6: the examples of layer 8: with anybody anywhere only standing is
// verified; with the road free up to 60000 the first candidate is.
func TestSearchExamples(t *testing.T) {
	x := setting{straight(), []int{0}, car(), at(10000, 0, blob(0, 0, 5999, 0, 2000), blob(0, 10001, 100000, 0, 2000)), true}
	x.c.Delay = 0
	if p, looked, ok := x.search(nil, 0, 8); !ok || looked != 7 || !slices.Equal(p.Acts, []int64{0, 0, 0, 0, -30}) {
		t.Error(p, looked, ok)
	}
	x.k = at(10000, 0, blob(0, 60001, 100000, 0, 2000))
	if p, looked, ok := x.search(nil, 0, 8); !ok || looked != 1 || !slices.Equal(p.Acts, plan.Profile(x.c, nil, 0, 0, 6, 4).Acts) {
		t.Error(p, looked, ok)
	}
	// The queue is done first, and the speed is VHi.
	x.k = know(0, ego(10000, 10050, 20, 40), blob(0, 60001, 100000, 0, 2000))
	if p, looked, ok := x.search([]int64{5, -10, -15}, 6, 8); !ok || looked != 1 || !slices.Equal(p.Acts, plan.Profile(x.c, []int64{5, -10, -15}, 6, 40, 6, 4).Acts) {
		t.Error(p, looked, ok)
	}
	if p, looked, ok := x.search(nil, -60, 8); !ok || looked != 1 || !slices.Equal(p.Acts, plan.Profile(x.c, nil, -60, 40, 6, 4).Acts) {
		t.Error(p, looked, ok)
	}
}

// P7.6: without anything valid nothing is verified; of a car that is not valid
// there are no candidates to look at.
func TestSearchInvalid(t *testing.T) {
	good := setting{cross(), []int{0}, car(), at(10000, 0), true}
	for i, change := range []func(x *setting){
		func(x *setting) { x.m = api.Map{} }, func(x *setting) { x.m.Zones[0].Parts[1].Rank = 1 }, func(x *setting) { x.route = nil }, func(x *setting) { x.route = []int{0, 1} }, func(x *setting) { x.m, x.route = fork(), []int{6} },
		func(x *setting) { x.k.Tick = -1 }, func(x *setting) { x.k.Ego.VHi = 2001 }, func(x *setting) { x.k.Blobs = []api.Blob{{Lane: 2}} }, func(x *setting) { x.k.Tick = api.MaxTick },
	} {
		x := good
		x.m = cross()
		change(&x)
		for _, budget := range []int{8, 3} {
			if p, looked, ok := x.search([]int64{0}, 0, budget); ok || looked != budget || len(p.Acts) > 0 {
				t.Error(i, p, looked, ok)
			}
		}
	}
	for i, c := range flawed() {
		x := good
		x.c = c
		if p, looked, ok := x.search(nil, 0, 8); ok || looked != 0 || len(p.Acts) > 0 {
			t.Error(i, p, looked, ok)
		}
	}
	// A queue that is not valid has no valid plans.
	for i, queue := range [][]int64{{30}, {-61}, {20, -20}, {far}, {low}} {
		if p, looked, ok := good.search(queue, 0, 8); ok || looked != 8 || len(p.Acts) > 0 {
			t.Error(i, p, looked, ok)
		}
	}
}

// P7.6, P7.10: Search finds what a plain second computation finds; and that is
// valid and verified, and no candidate before it is.
func TestSearchOfTrips(t *testing.T) {
	d := &dice{51}
	places := map[int]int{}
	for i, x := range trips(t, 52, 1500) {
		last := d.pick(0, d.roll(-x.c.Brake, x.c.Accel))
		queue := d.acts(x.c, last, d.pick(0, int64(x.c.Delay)))
		budget := int(d.pick(8, 8, 8, d.roll(-1, 9)))
		p, looked, ok := x.search(queue, last, budget)
		want, count, found := searched(x.setting, queue, last, budget)
		if !plan.Same(p, want) || looked != count || ok != found {
			t.Fatal(i, x, p, looked, ok, count, found)
		}
		l := plan.Candidates(x.c, queue, last, x.k.Ego.VHi)
		for k := range looked {
			f := plan.Verify(x.m, x.route, x.c, x.k, l[k], x.signals)
			if f.OK != (ok && k == looked-1) {
				t.Fatal(i, k, f, x, p, looked, ok)
			}
		}
		if ok && (plan.Check(x.c, p) != api.OK || !plan.Same(p, l[looked-1])) {
			t.Fatal(i, x, p)
		}
		if ok {
			places[looked]++
		}
	}
	if places[1] < 50 || places[3] < 10 || places[5] < 10 || places[7] < 10 {
		t.Error("too few plans to show anything:", places)
	}
}
