package drive_test

import (
	"slices"
	"testing"

	"kerbstone/api"
	"kerbstone/drive"
	"kerbstone/plan"
	"kerbstone/track"
	"kerbstone/world"
)

// The examples of the chapter.
func TestExamples(t *testing.T) {
	for _, x := range []struct {
		change func(*api.NodeSetup)
		want   api.Errno
	}{
		{func(s *api.NodeSetup) {}, api.OK},
		{func(s *api.NodeSetup) { s.Ego = ego(4000, 4000, 0, 0) }, api.ErrState},
		{func(s *api.NodeSetup) { s.Budget = 9 }, api.ErrRange},
		{func(s *api.NodeSetup) { s.Route = nil }, api.ErrRoute},
	} {
		s := setup()
		if x.change(&s); drive.CheckSetup(s) != x.want {
			t.Error(drive.CheckSetup(s), x.want)
		}
	}
	n := node(t, setup())
	if n.Mode() != api.ModeDrive || !plan.Same(n.Plan(), acts(0)) || !n.Verdict().OK {
		t.Error(n.Mode(), n.Plan(), n.Verdict())
	}
	if command := do(t, n, api.Input{}); command != 0 || n.Looked() != 7 {
		t.Error(command, n.Looked())
	}
	if command := see(t, n); command != 20 || n.Looked() != 1 {
		t.Error(command, n.Looked())
	}
	var modes []int
	for range 6 {
		idle(t, n, 1)
		modes = append(modes, n.Mode())
	}
	if !slices.Equal(modes, []int{1, 1, 1, 1, 1, 2}) {
		t.Error(modes)
	}
	if _, e := n.Tick(api.Input{Tick: n.Now() + 1}); e != api.ErrOrder {
		t.Error(e)
	}
	delayed := car()
	delayed.Delay = 1
	_, a := drive.Actuate(car(), actuators(0), -60, 1, 90)
	_, b := drive.Actuate(car(), actuators(0), -60, 0, 90)
	_, c := drive.Actuate(delayed, actuators(0, 20), 0, 2, 90)
	if a != -30 || b != 0 || c != 20 {
		t.Error(a, b, c)
	}
}

// The examples of the document.
func TestExamplesOfDocument(t *testing.T) {
	s := setup()
	state, e := world.New(s.Map, []api.Agent{{Route: s.Route, S: 10000, Len: 4000}, {Route: s.Route, S: 30000, V: 100, Len: 4000}})
	if e != api.OK {
		t.Fatal(e)
	}
	n := node(t, s)
	speeds := func(k api.Know) [2]int64 { return [2]int64{k.Blobs[1].VLo, k.Blobs[1].VHi} }
	if k := n.Know(); !track.Same(k, know(0, s.Ego, blob(0, 0, 5999, 0, 2000), blob(0, 10001, 100000, 0, 2000))) || !plan.Same(n.Plan(), acts(0)) {
		t.Error(k, n.Plan())
	}
	move := func() {
		if state, _, e = world.Step(s.Map, state, []int64{act(n)}); e != api.OK {
			t.Fatal(e)
		}
	}
	if command := idle(t, n, 1); command != 0 {
		t.Error(command)
	}
	move()
	command := do(t, n, api.Input{Tick: 1, Scans: []api.Scan{world.Sense(s.Map, state, 60000, nil)}})
	if k := n.Know(); command != 20 || !track.Same(k, know(1, s.Ego, blob(0, 26000, 30200, 95, 105), blob(0, 31001, 100000, 0, 2000))) {
		t.Error(command, k)
	}
	move()
	command = idle(t, n, 1)
	k := n.Know()
	i := slices.IndexFunc(k.Blobs, func(b api.Blob) bool { return b.Lo == 26005 })
	if command != 20 || i != 1 || k.Blobs[i].Hi != 30335 || speeds(k) != [2]int64{5, 135} {
		t.Error(command, k)
	}
	for range 5 {
		if move(); n.Mode() != api.ModeDrive {
			t.Error(n.Now())
		}
		idle(t, n, 1)
	}
	if n.Mode() != api.ModeFallback || n.Know().Tick != 7 || n.Know().Ego.VHi == 0 {
		t.Error(n.Mode(), n.Know())
	}
	for n.Know().Ego.VHi > 0 {
		if n.Reset() != api.ErrState {
			t.Error("it does not stand")
		}
		idle(t, n, 1)
	}
	if n.Reset() != api.OK || n.Mode() != api.ModeDrive {
		t.Error(n.Mode())
	}
}
