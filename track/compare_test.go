package track_test

import (
	"slices"
	"testing"

	"kerbstone/api"
	"kerbstone/track"
	"kerbstone/world"
)

// mark makes something measured.
func mark(stamp, lo, hi int64) api.Mark { return api.Mark{Stamp: stamp, Lo: lo, Hi: hi} }

// P5.5: Speed and Fix do the same for their bounds.
func TestMarks(t *testing.T) {
	for i, x := range []struct {
		lo, hi int64
		x      api.Mark
		a, b   int64
		ok     bool
	}{
		{0, 10, mark(7, 4, 20), 4, 10, true}, {0, 10, mark(7, 11, 20), 0, 10, false}, {0, 10, mark(7, 10, 20), 10, 10, true}, {0, 10, mark(7, -5, 0), 0, 0, true}, {0, 10, mark(7, -5, -1), 0, 10, false},
		{0, 10, mark(7, 4, 5), 4, 5, true}, {4, 5, mark(7, 0, 10), 4, 5, true}, {4, 5, mark(7, 4, 5), 4, 5, true}, {4, 5, mark(7, -400, 4), 4, 4, true}, {4, 5, mark(7, 5, 3), 4, 5, false}, {0, 10, mark(7, 6, 5), 0, 10, false},
		{0, 10, mark(7, low, far), 0, 10, true}, {0, 10, mark(7, far, low), 0, 10, false}, {0, 10, mark(7, far, far), 0, 10, false}, {0, 10, mark(7, low, low), 0, 10, false},
		// Of another tick it says nothing.
		{0, 10, mark(6, 4, 20), 0, 10, true}, {0, 10, mark(8, 11, 20), 0, 10, true}, {0, 10, mark(-7, 4, 5), 0, 10, true}, {0, 10, mark(0, 4, 5), 0, 10, true}, {9, 3, mark(0, 4, 5), 9, 3, true},
		// What is known may have any numbers.
		{9, 3, mark(7, 0, 20), 9, 3, false}, {low, far, mark(7, 0, 20), 0, 20, true}, {low, far, mark(7, low, far), low, far, true}, {far, low, mark(7, 0, 0), far, low, false}, {-9, -5, mark(7, -7, 9), -7, -5, true},
	} {
		k := know(7, ego(100, 200, x.lo, x.hi), blob(3, 2, 1), blob(0, 9, 9))
		want := know(7, ego(100, 200, x.a, x.b), k.Blobs...)
		if got, ok := track.Speed(k, x.x); ok != x.ok || !same(got, want) {
			t.Error(i, got, ok)
		}
		k.Ego, want.Ego = ego(x.lo, x.hi, 100, 200), ego(x.a, x.b, 100, 200)
		if got, ok := track.Fix(k, x.x); ok != x.ok || !same(got, want) {
			t.Error(i, got, ok)
		}
	}
	for _, tick := range []int64{-5, far, low, api.MaxTick} {
		k := know(tick, ego(5, 9, 5, 9))
		v, ok := track.Speed(k, mark(tick, 6, 20))
		s, ok2 := track.Fix(k, mark(tick, 0, 7))
		if !ok || !ok2 || v.Ego != ego(5, 9, 6, 9) || s.Ego != ego(5, 7, 5, 9) {
			t.Error(tick, v, s)
		}
	}
}

// agent makes an agent with the length 1000.
func agent(s, v int64, route ...int) api.Agent {
	return api.Agent{Route: route, S: s, V: v, Len: 1000}
}

// P5.6
func TestCoversExamples(t *testing.T) {
	around := func(l ...api.Blob) api.Know { return know(4, ego(4000, 4100, 50, 60), l...) }
	states := func(l ...api.Agent) api.State {
		return api.State{Tick: 4, Agents: append([]api.Agent{agent(4050, 55, 0, 2)}, l...)}
	}
	later, gone := agent(0, 9, 1), agent(6001, 9, 1)
	later.Begin, gone.Gone = 5, true
	for i, x := range []struct {
		s    api.State
		k    api.Know
		want bool
	}{
		{states(), around(), true}, {states(), around(blob(0, 0, 3000, 0, 2000)), true},
		// The vehicle is in its bounds.
		{states(), know(4, ego(4050, 4050, 55, 55)), true}, {states(), know(4, ego(4051, 4100, 50, 60)), false}, {states(), know(4, ego(4000, 4049, 50, 60)), false}, {states(), know(4, ego(4000, 4100, 56, 60)), false}, {states(), know(4, ego(4000, 4100, 50, 54)), false},
		{states(), know(5, ego(4000, 4100, 50, 60)), false}, {states(), know(3, ego(4000, 4100, 50, 60)), false},
		// Each part of a body is in a blob.
		{states(agent(1500, 9, 1)), around(), false}, {states(agent(1500, 9, 1)), around(blob(1, 500, 1500, 9, 9)), true}, {states(agent(1500, 9, 1)), around(blob(0, 500, 1500, 9, 9)), false},
		{states(agent(1500, 9, 1)), around(blob(1, 501, 1500, 9, 9)), false}, {states(agent(1500, 9, 1)), around(blob(1, 500, 1499, 9, 9)), false}, {states(agent(1500, 9, 1)), around(blob(1, 500, 900, 9, 9), blob(1, 902, 1500, 9, 9)), false},
		{states(agent(1500, 9, 1)), around(blob(1, 500, 1500, 10, 19)), false}, {states(agent(1500, 9, 1)), around(blob(1, 500, 1500, 0, 8)), false}, {states(agent(1500, 9, 1)), around(blob(1, 0, 5000, 0, 2000, 1)), true},
		{states(agent(1500, 9, 1), agent(5000, 7, 1)), around(blob(1, 500, 1500, 9, 9)), false}, {states(agent(1500, 9, 1), agent(5000, 7, 1)), around(blob(1, 500, 1500, 9, 9), blob(1, 4000, 5000, 7, 7)), true}, {states(agent(1500, 9, 1), agent(5000, 7, 1)), around(blob(1, 500, 5000, 7, 9)), true}, {states(agent(1500, 9, 1), agent(5000, 7, 1)), around(blob(1, 500, 5000, 8, 9)), false},
		{states(agent(5400, 9, 1, 2, 3)), around(blob(1, 4400, 5000, 9, 9)), false}, {states(agent(5400, 9, 1, 2, 3)), around(blob(2, 0, 400, 9, 9)), false}, {states(agent(5400, 9, 1, 2, 3)), around(blob(1, 4400, 5000, 9, 9), blob(2, 0, 400, 9, 9)), true}, {states(agent(5400, 9, 1, 2, 3)), around(blob(1, 4400, 5000, 9, 9), blob(2, 0, 399, 9, 9)), false},
		{states(agent(6000, 9, 1, 2, 3)), around(blob(1, 5000, 5000, 9, 9), blob(2, 0, 1000, 9, 9), blob(3, 0, 0, 9, 9)), true}, {states(agent(6000, 9, 1, 2, 3)), around(blob(1, 5000, 5000, 9, 9), blob(2, 0, 1000, 9, 9), blob(3, 1, 5, 9, 9)), false}, {states(agent(6000, 9, 1, 2, 3)), around(blob(2, 0, 1000, 9, 9), blob(3, 0, 0, 9, 9)), false},
		// Who is not there need not be known, nor what is behind the end of a route.
		{states(later), around(), true}, {states(gone), around(), true}, {states(agent(5999, 9, 1)), around(), false}, {states(agent(5999, 9, 1)), around(blob(1, 4999, 5000, 9, 9)), true},
		{states(agent(0, 9, 1)), around(), false}, {states(agent(0, 9, 1)), around(blob(1, 0, 0, 9, 9)), true},
		// All of it is valid.
		{api.State{Tick: 4}, around(), false}, {states(agent(1500, 2001, 1)), around(blob(1, 0, 5000, 0, 2000)), false}, {states(agent(1500, 9, 2)), around(blob(2, 0, 1000, 0, 2000)), false}, {states(), around(blob(0, 0, 3001, 0, 2000)), false}, {states(), around(blob(0, 0, 0), blob(0, 1, 1)), false}, {api.State{Tick: -1, Agents: states().Agents}, know(-1, ego(4000, 4100, 50, 60)), false},
	} {
		if track.Covers(fork(), x.s, x.k) != x.want {
			t.Error(i, !x.want)
		}
		if track.Covers(api.Map{}, x.s, x.k) {
			t.Error(i, "covered without a map")
		}
	}
}

// P5.6
func TestCoversPlain(t *testing.T) {
	d := &dice{51}
	yes := 0
	for i, x := range scenes(t, 52, 3000) {
		k := track.All(x.m, x.s.Tick, around(x.s, d))
		k.Blobs = slices.DeleteFunc(k.Blobs, func(b api.Blob) bool { return d.often(20) })
		if d.often(50) {
			k = track.Update(x.m, k, world.Sense(x.m, x.s, d.roll(0, 90000), d.noise(9)))
		}
		want := true
		for n, a := range x.s.Agents {
			for _, part := range world.Body(x.m, a) {
				want = want && (n == 0 || !world.There(x.s, n) || slices.ContainsFunc(k.Blobs, func(b api.Blob) bool {
					return part.Lane == b.Lane && part.From >= b.Lo && part.To <= b.Hi && a.V >= b.VLo && a.V <= b.VHi
				}))
			}
		}
		if track.Covers(x.m, x.s, k) != want {
			t.Error(i, !want)
		}
		if want {
			yes++
		}
	}
	if yes < 500 || yes > 2500 {
		t.Error("too few cases to show anything:", yes)
	}
}

// P5.6
func TestInsideExamples(t *testing.T) {
	b := func() api.Know {
		return know(7, ego(10, 20, 3, 9), blob(0, 5, 9, 2, 8), blob(1, 5, 9, 2, 8, 40), blob(1, 50, 90, 2, 8))
	}
	for i, x := range []struct {
		a    api.Know
		want bool
	}{
		{b(), true}, {know(7, ego(10, 20, 3, 9)), true}, {know(6, ego(10, 20, 3, 9)), false}, {know(8, ego(10, 20, 3, 9)), false},
		{know(7, ego(11, 19, 4, 8)), true}, {know(7, ego(9, 20, 3, 9)), false}, {know(7, ego(10, 21, 3, 9)), false}, {know(7, ego(10, 20, 2, 9)), false}, {know(7, ego(10, 20, 3, 10)), false},
		{know(7, ego(10, 20, 3, 9), blob(0, 6, 8, 3, 7)), true}, {know(7, ego(10, 20, 3, 9), blob(0, 4, 8, 3, 7)), false}, {know(7, ego(10, 20, 3, 9), blob(0, 6, 10, 3, 7)), false}, {know(7, ego(10, 20, 3, 9), blob(0, 6, 8, 1, 7)), false}, {know(7, ego(10, 20, 3, 9), blob(0, 6, 8, 3, 9)), false}, {know(7, ego(10, 20, 3, 9), blob(2, 6, 8, 3, 7)), false},
		// A Hold says more than none, and a lesser one more than a greater one.
		{know(7, ego(10, 20, 3, 9), blob(0, 6, 8, 3, 7, 1)), true}, {know(7, ego(10, 20, 3, 9), blob(1, 6, 8, 3, 7, 40)), true}, {know(7, ego(10, 20, 3, 9), blob(1, 6, 8, 3, 7, 39)), true}, {know(7, ego(10, 20, 3, 9), blob(1, 6, 8, 3, 7, 41)), false}, {know(7, ego(10, 20, 3, 9), blob(1, 6, 8, 3, 7)), false},
		// Each blob, and all of it in one.
		{know(7, ego(10, 20, 3, 9), blob(0, 6, 8, 3, 7), blob(1, 55, 56, 3, 7), blob(1, 57, 90, 3, 7)), true}, {know(7, ego(10, 20, 3, 9), blob(0, 6, 8, 3, 7), blob(1, 55, 91, 3, 7)), false}, {know(7, ego(10, 20, 3, 9), blob(0, 4, 8, 3, 7), blob(1, 55, 90, 3, 7)), false}, {know(7, ego(10, 20, 3, 9), blob(1, 9, 50, 3, 7, 5)), false},
		{know(7, ego(10, 20, 3, 9), blob(1, 55, 90, 3, 7), blob(0, 6, 8, 3, 7), blob(0, 6, 8, 3, 7)), true}, {api.Know{}, false}, {api.Know{Tick: 7}, false},
	} {
		if track.Inside(x.a, b()) != x.want {
			t.Error(i, !x.want)
		}
	}
	if !track.Inside(api.Know{}, api.Know{}) || track.Inside(know(0, api.Ego{}, blob(0, 0, 0)), api.Know{}) || !track.Inside(know(0, api.Ego{}, blob(0, 0, 0)), know(0, api.Ego{}, blob(0, 5, 5), blob(1, 0, 0), blob(0, low, far, low, far))) {
		t.Error("Inside of what is not valid")
	}
	// Together they are around it, but neither is alone.
	if track.Inside(know(0, api.Ego{}, blob(0, 2, 4)), know(0, api.Ego{}, blob(0, 0, 3), blob(0, 3, 9))) {
		t.Error("a blob is inside two others")
	}
}

// P5.6
func TestSame(t *testing.T) {
	for i, change := range []func(k *api.Know){
		func(k *api.Know) { k.Tick++ },
		func(k *api.Know) { k.Ego.SLo++ },
		func(k *api.Know) { k.Ego.SHi++ },
		func(k *api.Know) { k.Ego.VLo++ },
		func(k *api.Know) { k.Ego.VHi-- },
		func(k *api.Know) { k.Blobs[6].Lane++ },
		func(k *api.Know) { k.Blobs[0].Lo++ },
		func(k *api.Know) { k.Blobs[1].Hi-- },
		func(k *api.Know) { k.Blobs[2].VLo-- },
		func(k *api.Know) { k.Blobs[3].VHi++ },
		func(k *api.Know) { k.Blobs[4].Hold-- },
		func(k *api.Know) { k.Blobs = k.Blobs[:6] },
		func(k *api.Know) { k.Blobs = append(k.Blobs, api.Blob{}) },
		func(k *api.Know) { k.Blobs[0], k.Blobs[1] = k.Blobs[1], k.Blobs[0] },
		func(k *api.Know) { *k = api.Know{} },
	} {
		k := full()
		change(&k)
		if track.Same(k, full()) || track.Same(full(), k) || !track.Same(k, k) {
			t.Error(i)
		}
	}
	if !track.Same(full(), full()) || !track.Same(api.Know{}, api.Know{Blobs: []api.Blob{}}) || !track.Same(api.Know{Blobs: []api.Blob{}}, api.Know{}) {
		t.Error("what is equal is not the same")
	}
}

// P5.6
func TestCopy(t *testing.T) {
	for i, k := range []api.Know{full(), {}, {Blobs: []api.Blob{}}, know(low, ego(far, low, -1, 0), blob(far, 5, 2, 9, 3, -1))} {
		if to := track.Copy(k); !same(to, k) || !track.Same(to, k) {
			t.Error(i, to)
		}
	}
}
