package drive_test

import (
	"slices"
	"testing"

	"kerbstone/api"
	"kerbstone/drive"
	"kerbstone/plan"
	"kerbstone/roads"
	"kerbstone/track"
)

// node returns a node with a setup.
func node(t *testing.T, s api.NodeSetup) *drive.Node {
	t.Helper()
	n, e := drive.NewNode(s)
	if e != api.OK || n == nil {
		t.Fatal(n, e)
	}
	return n
}

// do does a tick that has no error.
func do(t *testing.T, n *drive.Node, input api.Input) int64 {
	t.Helper()
	command, e := n.Tick(input)
	if e != api.OK {
		t.Fatal(n.Now(), e)
	}
	return command
}

// idle does so many ticks without measurements, and returns the last command.
func idle(t *testing.T, n *drive.Node, ticks int) int64 {
	t.Helper()
	var command int64
	for range ticks {
		command = do(t, n, api.Input{Tick: n.Now()})
	}
	return command
}

// see does a tick with a scan in which there is nobody.
func see(t *testing.T, n *drive.Node) int64 {
	t.Helper()
	return do(t, n, api.Input{Tick: n.Now(), Scans: []api.Scan{seen(n.Now(), span(0, 0, 60000))}})
}

// P8.1 to P8.5: whatever a node is told, it does what a plain one does that
// fuses all anew in each tick.
func TestTicks(t *testing.T) {
	t.Parallel()
	d := &dice{83}
	count := map[string]int{}
	for i, x := range rides(t, 84, 160) {
		c, p, honest := made(x.setup), post{}, i%2 == 0
		if !c.same(x.n) {
			t.Fatal(i, "the beginning")
		}
		for range 24 {
			tick := x.n.Now()
			d.scatter(p, tick, x.measure(d))
			if !honest && d.often(30) {
				p.send(tick, d.lie(x.n))
			}
			input := p.arrive(tick)
			clashes, mode := c.clashes, c.mode
			command, want := do(t, x.n, input), c.tick(input)
			if command != want || !c.same(x.n) || x.n.Verdict() != c.verdict() {
				t.Fatal(i, tick, command, want, x.n.Know(), c.know)
			}
			count["contradicted"] += c.clashes - clashes
			if mode != c.mode {
				count["fell back"]++
			}
			if c.know.Ego.VHi > 0 {
				count["moving"]++
			}
			if c.looked > 1 {
				count["looked further"]++
			}
			if d.often(40) {
				e, want := x.n.Reset(), c.reset()
				if e != want || !c.same(x.n) {
					t.Fatal(i, tick, e, want)
				}
				if e == api.OK {
					count["reset"]++
				}
			}
			if hits := x.move(t, d, act(x.n)); hit(hits) && honest {
				break
			}
		}
	}
	for _, what := range []string{"contradicted", "fell back", "moving", "looked further", "reset"} {
		if count[what] < 40 {
			t.Error("too few ticks to show anything:", what, count)
		}
	}
}

// P8.2, P8.4: the beginning.
func TestNewNode(t *testing.T) {
	for i, x := range rides(t, 85, 100) {
		s := x.setup
		n := node(t, s)
		want := track.Own(s.Map, s.Route, s.Car.Len, track.All(s.Map, s.Tick, s.Ego))
		if n.Now() != s.Tick || n.Mode() != api.ModeDrive || n.Looked() != 0 || !plan.Same(n.Plan(), acts(0)) || !track.Same(n.Know(), want) || n.Verdict() != (api.Finding{OK: true}) {
			t.Error(i, n.Now(), n.Mode(), n.Looked(), n.Plan(), n.Know(), n.Verdict())
		}
		to := n.Setup()
		if !roads.Same(to.Map, s.Map) || !slices.Equal(to.Route, s.Route) || to.Car != s.Car || to.Ego != s.Ego || to.Tick != s.Tick || to.Budget != s.Budget || to.Silence != s.Silence || to.Signals != s.Signals {
			t.Error(i, to, s)
		}
		if drive.CheckSetup(s) != api.OK {
			t.Error(i)
		}
	}
}

// P8.3: the errors of a tick, with which nothing changes.
func TestErrorsOfTicks(t *testing.T) {
	s := setup()
	s.Tick = 100
	n := node(t, s)
	see(t, n)
	many := func(scans, speeds, fixes int) api.Input {
		return api.Input{Tick: 101, Scans: make([]api.Scan, scans), Speeds: make([]api.Mark, speeds), Fixes: make([]api.Mark, fixes)}
	}
	for i, x := range []struct {
		input api.Input
		want  api.Errno
	}{
		{api.Input{}, api.ErrOrder}, {api.Input{Tick: 100}, api.ErrOrder}, {api.Input{Tick: 102}, api.ErrOrder}, {api.Input{Tick: far}, api.ErrOrder}, {api.Input{Tick: low}, api.ErrOrder},
		{many(9, 0, 0), api.ErrFull}, {many(0, 9, 0), api.ErrFull}, {many(0, 0, 9), api.ErrFull}, {many(9, 9, 9), api.ErrFull}, {many(100, 0, 0), api.ErrFull},
		// The order comes first.
		{api.Input{Tick: 100, Scans: make([]api.Scan, 9)}, api.ErrOrder},
		{many(8, 8, 8), api.OK},
	} {
		to := n.Copy()
		command, e := to.Tick(x.input)
		if e != x.want || e != api.OK && (command != 0 || !to.Same(n)) || e == api.OK && command != 20 {
			t.Error(i, command, e)
		}
		// The tick behind an error is the one that there would have been without it.
		if e != api.OK {
			other := n.Copy()
			if see(t, to) != see(t, other) || !to.Same(other) {
				t.Error(i, "something has changed")
			}
		}
	}
}

// P8.3: a node has no tick from MaxTick - 1000 on.
func TestLastTick(t *testing.T) {
	t.Parallel()
	s := setup()
	s.Tick, s.Silence = api.MaxTick-1000000, 0
	n := node(t, s)
	for n.Now() < api.MaxTick-1000 {
		if _, e := n.Tick(api.Input{Tick: n.Now()}); e != api.OK {
			t.Fatal(n.Now(), e)
		}
	}
	before := n.Bytes()
	if command, e := n.Tick(api.Input{Tick: n.Now()}); e != api.ErrFull || command != 0 || n.Bytes() != before {
		t.Error(command, e)
	}
	if _, e := n.Tick(api.Input{Tick: n.Now() + 1}); e != api.ErrOrder {
		t.Error(e)
	}
	if n.Reset() != api.OK || n.Know().Tick != api.MaxTick-1001 || !n.Verdict().OK {
		t.Error(n.Know(), n.Verdict())
	}
}

// P8.3: measurements count from T - 4 to T, and not before the first tick.
func TestStamps(t *testing.T) {
	// What was seen is free in the middle of the road, where nobody comes soon.
	free := func(n *drive.Node) bool { return len(n.Know().Blobs) == 3 }
	for _, x := range []struct {
		start, now, stamp int64
		want              bool
	}{
		{0, 0, 0, true}, {0, 0, -1, false}, {0, 0, 1, false}, {0, 9, 9, true}, {0, 9, 10, false}, {0, 9, far, false}, {0, 9, low, false},
		{0, 4, 0, true}, {0, 5, 1, true}, {0, 5, 0, false}, {0, 9, 5, true}, {0, 9, 4, false},
		{20, 22, 20, true}, {20, 22, 19, false}, {20, 22, 18, false}, {20, 24, 20, true}, {20, 25, 20, false}, {20, 25, 21, true},
	} {
		s := setup()
		s.Tick, s.Silence, s.Budget = x.start, 1000, 0
		n := node(t, s)
		idle(t, n, int(x.now-x.start))
		m := n.Copy()
		do(t, n, api.Input{Tick: x.now, Scans: []api.Scan{seen(x.stamp, span(0, 20000, 60000))}})
		if free(n) != x.want {
			t.Error(x, n.Know())
		}
		// The same of a fix and of a speed, which contradict all.
		for i, input := range []api.Input{{Tick: x.now, Fixes: []api.Mark{mark(x.stamp, 20000, 20000)}}, {Tick: x.now, Speeds: []api.Mark{mark(x.stamp, 5, 5)}}} {
			to := m.Copy()
			if do(t, to, input); (to.Mode() == api.ModeFallback) != x.want {
				t.Error(x, i, to.Mode())
			}
		}
	}
}

// P8.3: what does not count when it comes is forgotten, also if its tick comes
// later; and what counted is forgotten after MaxLate ticks, but what it said of
// later ticks is not.
func TestForgetting(t *testing.T) {
	s := setup()
	s.Silence, s.Budget = 1000, 0
	n := node(t, s)
	do(t, n, api.Input{Fixes: []api.Mark{mark(1, 20000, 20000)}, Scans: []api.Scan{seen(2, span(0, 0, 60000))}})
	idle(t, n, 6)
	if n.Mode() != api.ModeDrive || len(n.Know().Blobs) != 2 || n.Know().Blobs[1].Lo != 10001 {
		t.Error(n.Mode(), n.Know())
	}
	do(t, n, api.Input{Tick: 7, Fixes: []api.Mark{mark(7, 9900, 10000)}, Scans: []api.Scan{seen(7, span(0, 10000, 60000))}})
	want := n.Know()
	idle(t, n, 9)
	if k := n.Know(); k.Ego != want.Ego || len(k.Blobs) != 2 || k.Blobs[1].Lo != 60001 || k.Tick != 16 {
		t.Error(k, want)
	}
	// A late scan changes what was remembered since.
	for late := range int64(5) {
		to, on := n.Copy(), n.Copy()
		do(t, to, api.Input{Tick: 17, Scans: []api.Scan{seen(17-late, span(0, 0, 5999))}})
		idle(t, to, 3)
		idle(t, on, 4)
		if a, b := to.Know().Blobs, on.Know().Blobs; a[0].Lo != 0 || a[0].Hi != min(5999, 2000*(2+late)) || b[0].Hi != 5999 {
			t.Error(late, a, b)
		}
	}
}

// P8.3: the world contradicts what is known, by a speed, a fix or a scan, at any
// tick that counts.
func TestContradictions(t *testing.T) {
	s := setup()
	s.Silence = 1000
	start := node(t, s)
	for range 6 {
		see(t, start)
	}
	k := start.Know()
	if start.Mode() != api.ModeDrive || k.Ego != ego(10300, 10300, 100, 100) {
		t.Fatal(start.Mode(), k)
	}
	for late := range int64(5) {
		stamp := 6 - late
		v, at := 20*stamp, 10000+10*stamp*(stamp+1)
		points := func(x int64, l ...api.Point) api.Scan {
			return api.Scan{Stamp: stamp, Seen: []api.Span{span(0, 0, 60000)}, Points: append(l, point(x, 0, 0))}
		}
		for i, x := range []struct {
			input api.Input
			want  bool
		}{
			{api.Input{Speeds: []api.Mark{mark(stamp, v, v)}}, false},
			{api.Input{Speeds: []api.Mark{mark(stamp, v+1, far)}}, true},
			{api.Input{Speeds: []api.Mark{mark(stamp, low, v-1)}}, true},
			{api.Input{Speeds: []api.Mark{mark(stamp, v+5, v-5)}}, true},
			{api.Input{Speeds: []api.Mark{mark(stamp, 0, v), mark(stamp, v, 2000), mark(stamp, v-3, v+3)}}, false},
			{api.Input{Fixes: []api.Mark{mark(stamp, at, at)}}, false},
			{api.Input{Fixes: []api.Mark{mark(stamp, at-200, at+200), mark(stamp, at+1, far)}}, true},
			{api.Input{Fixes: []api.Mark{mark(stamp, low, at-1)}}, true},
			// Whoever is found behind all that was seen was not seen before.
			{api.Input{Scans: []api.Scan{points(65000)}}, false},
			{api.Input{Scans: []api.Scan{points(30000)}}, true},
			{api.Input{Scans: []api.Scan{points(30000, point(65000, 0, 0))}}, true},
			// The vehicle's own place is nobody else's.
			{api.Input{Scans: []api.Scan{points(at - 2000)}}, true},
			// A point that is on no lane is nobody's.
			{api.Input{Scans: []api.Scan{points(65000, point(65000, 5000, 0))}}, true},
			// One with a speed that nobody has does not count.
			{api.Input{Scans: []api.Scan{points(65000, point(65000, 5000, 3000))}}, false},
			{api.Input{Scans: []api.Scan{points(65000), points(30000)}}, true},
			// Somebody may have come in, but at the ticks of which there was a scan.
			{api.Input{Scans: []api.Scan{points(0)}}, late > 0},
			{api.Input{Scans: []api.Scan{{Stamp: stamp, Points: []api.Point{point(65000, 0, 2005), point(65000, 0, 9)}}}}, false},
		} {
			n, c := start.Copy(), plainly(t, s)
			x.input.Tick = 6
			before := plan.Tail(n.Plan())
			command, want := do(t, n, x.input), c.tick(x.input)
			if command != want || !c.same(n) || (c.clashes == 1) != x.want || (n.Mode() == api.ModeFallback) != x.want {
				t.Error(late, i, n.Mode(), n.Know(), c.know)
			}
			if !x.want {
				continue
			}
			all := track.Own(s.Map, s.Route, 4000, track.All(s.Map, 6, ego(10420, 10420, 120, 120)))
			if !track.Same(n.Know(), all) || !plan.Same(n.Plan(), before) || command != plan.Act(before, 0) || n.Looked() != 1 {
				t.Error(late, i, n.Know(), n.Plan(), before, command)
			}
		}
	}
}

// plainly returns a plain node that was told six times that the road is free.
func plainly(t *testing.T, s api.NodeSetup) *computer {
	t.Helper()
	c := made(s)
	for tick := range int64(6) {
		c.tick(api.Input{Tick: tick, Scans: []api.Scan{seen(tick, span(0, 0, 60000))}})
	}
	return c
}

// P8.3: after a contradiction the vehicle is where the steps alone say, from the
// first tick that is remembered on; and nothing that was measured before counts
// any more.
func TestAfterContradictions(t *testing.T) {
	s := setup()
	s.Ego, s.Silence, s.Budget = ego(9000, 10000, 0, 0), 1000, 0
	n := node(t, s)
	idle(t, n, 2)
	// The place of the tick 2 is remembered with the fixes of 0 to 1 alone, once
	// it is the oldest one.
	do(t, n, api.Input{Tick: 2, Fixes: []api.Mark{mark(1, 9100, 9900), mark(2, 9200, 9800)}})
	idle(t, n, 1)
	do(t, n, api.Input{Tick: 4, Fixes: []api.Mark{mark(4, 9300, 9700)}})
	for i, x := range []struct {
		idle int
		want api.Ego
	}{
		// At the tick 5, the tick 1 is the oldest one, and so on.
		{0, ego(9000, 10000, 0, 0)}, {1, ego(9100, 9900, 0, 0)}, {2, ego(9200, 9800, 0, 0)}, {3, ego(9200, 9800, 0, 0)}, {4, ego(9300, 9700, 0, 0)},
	} {
		to := n.Copy()
		idle(t, to, x.idle)
		if to.Know().Ego != ego(9300, 9700, 0, 0) || to.Mode() != api.ModeDrive {
			t.Error(i, to.Know())
		}
		tick := to.Now()
		do(t, to, api.Input{Tick: tick, Fixes: []api.Mark{mark(tick-2, 5000, 5000), mark(tick, 9400, 9600)}})
		if to.Know().Ego != x.want || to.Mode() != api.ModeFallback || to.Now() != tick+1 {
			t.Error(i, to.Know(), to.Mode())
		}
		// Nothing of before the contradiction is left, nor does it count if it comes
		// now; what was measured at its tick, or later, does.
		do(t, to, api.Input{Tick: tick + 1, Fixes: []api.Mark{mark(tick-1, 1, 1)}})
		if to.Know().Ego != x.want {
			t.Error(i, to.Know())
		}
		do(t, to, api.Input{Tick: tick + 2, Fixes: []api.Mark{mark(tick, x.want.SLo, x.want.SHi-50), mark(tick+2, x.want.SLo+60, far)}})
		if to.Know().Ego != ego(x.want.SLo+60, x.want.SHi-50, 0, 0) || to.Mode() != api.ModeFallback {
			t.Error(i, to.Know())
		}
	}
}

// P8.3: the silence of the scans.
func TestSilence(t *testing.T) {
	for _, silence := range []int{0, 1, 5, 30} {
		s := setup()
		s.Tick, s.Silence, s.Budget = 50, silence, 0
		// Without a scan it counts from the first tick on.
		n := node(t, s)
		idle(t, n, silence+1)
		if n.Mode() != api.ModeDrive {
			t.Error(silence, n.Now())
		}
		if idle(t, n, 1); n.Mode() != api.ModeFallback {
			t.Error(silence, n.Now())
		}
		// From a reset on it counts from the node's tick.
		idle(t, n, 3)
		if n.Reset() != api.OK {
			t.Error(silence, "reset")
		}
		idle(t, n, silence+1)
		if n.Mode() != api.ModeDrive {
			t.Error(silence, n.Now())
		}
		if idle(t, n, 1); n.Mode() != api.ModeFallback {
			t.Error(silence, n.Now())
		}
		// Else it counts from the greatest stamp on, whenever it came; what only
		// measures the vehicle does not count, nor does what comes too late or too
		// early.
		for late := range int64(min(silence, 4) + 1) {
			n = node(t, s)
			idle(t, n, min(silence, 4))
			tick := n.Now()
			do(t, n, api.Input{Tick: tick, Scans: []api.Scan{seen(tick - late), seen(tick - 4), seen(tick + 1), seen(49)}})
			for n.Now() <= tick-late+int64(silence) {
				if do(t, n, api.Input{Tick: n.Now(), Fixes: []api.Mark{mark(n.Now(), 0, far)}, Speeds: []api.Mark{mark(n.Now(), 0, far)}}); n.Mode() != api.ModeDrive {
					t.Error(silence, late, n.Now())
				}
			}
			if idle(t, n, 1); n.Mode() != api.ModeFallback {
				t.Error(silence, late, n.Now())
			}
			// A scan does not let it drive again.
			if see(t, n); n.Mode() != api.ModeFallback {
				t.Error(silence, late, n.Now())
			}
		}
	}
}

// P8.3: a reset needs a node that fell back, stands, and is verified.
func TestReset(t *testing.T) {
	n := node(t, setup())
	if n.Reset() != api.ErrState {
		t.Error("it has not fallen back")
	}
	for range 9 {
		see(t, n)
	}
	if n.Reset() != api.ErrState {
		t.Error("it has not fallen back")
	}
	idle(t, n, 6)
	before := n.Bytes()
	if n.Mode() != api.ModeFallback || n.Know().Ego.VHi == 0 || n.Reset() != api.ErrState || n.Bytes() != before {
		t.Error("it does not stand")
	}
	for n.Know().Ego.VHi > 0 {
		if !n.Verdict().OK || n.Reset() != api.ErrState {
			t.Error(n.Now(), n.Verdict())
		}
		idle(t, n, 1)
	}
	looked := n.Looked()
	if n.Reset() != api.OK || n.Mode() != api.ModeDrive || n.Reset() != api.ErrState || n.Looked() != looked {
		t.Error(n.Mode())
	}
	for range 4 {
		see(t, n)
	}
	if n.Mode() != api.ModeDrive || n.Know().Ego.VHi == 0 {
		t.Error(n.Mode(), n.Know())
	}
	// Also a node that the world contradicted can be reset, as long as it knows
	// that its place is before the zone.
	s := setup()
	s.Map, s.Ego = cross(), ego(47000, 47999, 0, 0)
	n = node(t, s)
	do(t, n, api.Input{Speeds: []api.Mark{mark(0, 5, 5)}})
	if n.Mode() != api.ModeFallback || n.Reset() != api.OK || n.Mode() != api.ModeDrive {
		t.Error(n.Mode(), n.Verdict())
	}
	n = stuck(t)
	before = n.Bytes()
	if n.Mode() != api.ModeFallback || n.Know().Ego.VHi != 0 || n.Verdict().OK || n.Reset() != api.ErrState || n.Bytes() != before {
		t.Error(n.Mode(), n.Know(), n.Verdict())
	}
}

// stuck returns a node whose vehicle stands, and that does not know any more
// that this is before a zone: a fix had told it, until another one contradicted.
func stuck(t *testing.T) *drive.Node {
	t.Helper()
	s := setup()
	s.Map, s.Ego, s.Silence = cross(), ego(46500, 47500, 0, 0), 1000
	n := node(t, s)
	do(t, n, api.Input{Fixes: []api.Mark{mark(0, 46500, 46500)}, Scans: []api.Scan{seen(0, span(0, 0, 60000), span(1, 0, 60000))}})
	idle(t, n, 3)
	do(t, n, api.Input{Tick: 4, Fixes: []api.Mark{mark(4, 0, 0)}})
	for n.Know().Ego.VHi > 0 {
		idle(t, n, 1)
	}
	return n
}

// P8.3, P8.4: the plan, what was known in it, and the verdict are those of the
// last tick, and so is what was looked at in the last search.
func TestLooked(t *testing.T) {
	s := setup()
	n := node(t, s)
	idle(t, n, 1)
	if n.Looked() != 7 || !plan.Same(n.Plan(), acts(0, 0, 0, 0, -30)) || n.Know().Tick != 0 || n.Now() != 1 {
		t.Error(n.Looked(), n.Plan(), n.Know())
	}
	see(t, n)
	if n.Looked() != 1 || n.Plan().Acts[0] != 20 || n.Know().Tick != 1 {
		t.Error(n.Looked(), n.Plan(), n.Know())
	}
	before := n.Plan()
	// What contradicts comes before the search, and leaves the plan as it is.
	do(t, n, api.Input{Tick: 2, Speeds: []api.Mark{mark(2, 500, 600)}})
	if n.Looked() != 1 || !plan.Same(n.Plan(), plan.Tail(before)) || n.Mode() != api.ModeFallback {
		t.Error(n.Looked(), n.Plan(), n.Mode())
	}
	if f := n.Verdict(); f.OK || f != plan.Verify(s.Map, s.Route, s.Car, n.Know(), n.Plan(), true) {
		t.Error(f)
	}
	for budget := range 9 {
		s.Budget = budget
		n := node(t, s)
		command := idle(t, n, 1)
		want := acts(0, 0, 0, 0, -30)
		if budget < 7 {
			want = acts(0)
		}
		if command != 0 || n.Looked() != min(budget, 7) || !plan.Same(n.Plan(), want) || n.Mode() != api.ModeDrive {
			t.Error(budget, command, n.Looked(), n.Plan())
		}
	}
}

// P8.3: the command is for the tick after the delay, and a search keeps what was
// commanded before.
func TestDelays(t *testing.T) {
	for delay := range 6 {
		s := setup()
		s.Car.Delay = delay
		n := node(t, s)
		var commands []int64
		for i := range 30 {
			commands = append(commands, see(t, n))
			for k := range delay + 1 {
				var want int64
				if i+k >= delay {
					want = commands[i+k-delay]
				}
				if at := plan.Act(n.Plan(), k); at != want {
					t.Error(delay, i, k, at, want)
				}
			}
		}
		if commands[0] != 20 || n.Know().Ego.VHi < 20*(29-int64(delay)) {
			t.Error(delay, commands, n.Know())
		}
	}
}
