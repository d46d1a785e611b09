package world_test

import (
	"slices"
	"testing"

	"kerbstone/api"
	"kerbstone/curve"
	"kerbstone/roads"
	"kerbstone/world"
)

// trip is a tick: what was before it, and what it made.
type trip struct {
	stage
	acts    []int64
	to      api.State
	crashes []api.Crash
}

// trips returns many ticks.
func trips(t *testing.T, seed uint64, count int) []trip {
	t.Helper()
	d := &dice{seed}
	var l []trip
	for i, x := range stages(t, seed+1, count) {
		for range 5 {
			acts := d.acts(x.s)
			to, crashes, e := world.Step(x.m, x.s, acts)
			if e != api.OK {
				t.Fatal(i, e)
			}
			l = append(l, trip{x, acts, to, crashes})
			if x.s = to; to.Tick == api.MaxTick {
				break
			}
		}
	}
	return l
}

// P4.8
func TestStatesStayValid(t *testing.T) {
	left := 0
	for i, x := range trips(t, 81, 1500) {
		if e := world.Check(x.m, x.to); e != api.OK || x.to.Tick != x.s.Tick+1 {
			t.Error(i, e, x.to)
		}
		for k, a := range x.s.Agents {
			b := x.to.Agents[k]
			lane, _ := place(x.m, a)
			most, up, down := roads.Bounds(x.m.Lanes[lane].Kind)
			if b.S < a.S || b.V < 0 || b.V > most || b.V > a.V+up || b.V < a.V-down || b.S != a.S && b.S != a.S+b.V {
				t.Error(i, k, a, b)
			}
			if !slices.Equal(a.Route, b.Route) || a.Len != b.Len || a.Begin != b.Begin || a.Obey != b.Obey || a.Gone && !b.Gone {
				t.Error(i, k, a, b)
			}
			if b.Gone && !a.Gone {
				left++
			}
		}
	}
	if left < 100 {
		t.Error("too few agents leave to show anything:", left)
	}
}

// P4.9
func TestRedLinesAreObeyed(t *testing.T) {
	kept := 0
	for i, x := range trips(t, 83, 4000) {
		for k, a := range x.s.Agents {
			if !a.Obey || !world.There(x.s, k) {
				continue
			}
			lane, f := place(x.m, a)
			_, _, down := roads.Bounds(x.m.Lanes[lane].Kind)
			b := x.to.Agents[k]
			then := f + b.S - a.S
			for _, line := range roads.Red(x.m, lane, x.s.Tick) {
				if line <= f || f+world.Stop(a.V, down) >= line {
					continue
				}
				if then >= line || then+world.Stop(b.V, down) >= line {
					t.Error(i, k, line, a, b)
				}
				kept++
			}
		}
	}
	if kept < 500 {
		t.Error("too few lines to show anything:", kept)
	}
}

// P4.10, P4.11
func TestWhoIsResponsible(t *testing.T) {
	lanes, zones, gaps := 0, 0, 0
	for i, x := range trips(t, 85, 2500) {
		for _, c := range x.crashes {
			if c.A >= c.B || c.Tick != x.s.Tick || !world.There(x.s, c.A) || !world.There(x.s, c.B) {
				t.Error(i, c)
			}
			if !slices.Equal(c.Who, []int{c.A}) && !slices.Equal(c.Who, []int{c.B}) && !slices.Equal(c.Who, []int{c.A, c.B}) {
				t.Error(i, c)
			}
			if c.Zone >= 0 {
				p, _ := entry(x.m, x.s.Agents[c.A].Route, c.Zone)
				q, _ := entry(x.m, x.s.Agents[c.B].Route, c.Zone)
				if c.Lane != -1 || p.Lane == q.Lane {
					t.Error(i, c)
				}
				zones++
				continue
			}
			front := c.A + c.B - c.Who[0]
			who, other := x.s.Agents[c.Who[0]], x.s.Agents[front]
			if len(c.Who) != 1 || c.Zone != -1 || who.S-start(x.m, who.Route, c.Lane) > other.S-start(x.m, other.Route, c.Lane) {
				t.Error(i, c)
			}
			lanes++
		}
		gaps += gapsKept(t, x)
	}
	if min(lanes, zones, gaps) < 1000 {
		t.Error("too few cases to show anything:", lanes, zones, gaps)
	}
}

// gapsKept tests that who does not use up the gap to the rear ahead of it does
// not crash on this lane, and counts these gaps.
func gapsKept(t *testing.T, x trip) int {
	gaps := 0
	for i, a := range x.s.Agents {
		for j, b := range x.s.Agents {
			for _, lane := range a.Route {
				from, other := start(x.m, a.Route, lane), start(x.m, b.Route, lane)
				if i == j || other < 0 || a.S-from > b.S-other-b.Len || x.to.Agents[i].S-from >= x.to.Agents[j].S-other-b.Len {
					continue
				}
				gaps++
				if slices.ContainsFunc(x.crashes, func(c api.Crash) bool { return c.Lane == lane && c.A == min(i, j) && c.B == max(i, j) }) {
					t.Error(i, j, lane, x.crashes)
				}
			}
		}
	}
	return gaps
}

// P4.12
func TestPointsOfBodies(t *testing.T) {
	d := &dice{87}
	parts := 0
	for i, x := range stages(t, 88, 800) {
		scan := world.Sense(x.m, x.s, d.pick(api.MaxSpot, 9000), d.noise(d.pick(0, 30, 3000)))
		for _, span := range scan.Seen {
			for k, a := range x.s.Agents {
				if k == 0 || !world.There(x.s, k) {
					continue
				}
				for _, b := range world.Body(x.m, a) {
					from, to := max(b.From, span.From), min(b.To, span.To)
					if b.Lane != span.Lane || from > to {
						continue
					}
					parts++
					for offset := from; ; offset = min(to, offset+500) {
						if !measured(curve.At(x.m.Lanes[b.Lane].Curve, offset), a.V, scan.Points) {
							t.Error(i, k, b, offset)
						}
						if offset == to {
							break
						}
					}
				}
			}
		}
		for _, p := range scan.Points {
			if p.V < -5 || p.V > 2005 {
				t.Error(i, p)
			}
		}
	}
	if parts < 500 {
		t.Error("too few parts to show anything:", parts)
	}
}

// measured reports whether there is a point near a spot, with nearly this speed.
func measured(at api.Spot, v int64, points []api.Point) bool {
	near := func(x, y, most int64) bool { return x-y <= most && y-x <= most }
	return slices.ContainsFunc(points, func(p api.Point) bool {
		return near(p.X, at.X, 50) && near(p.Y, at.Y, 50) && near(p.V, v, 5)
	})
}

// P4.14
func TestStepsRepeat(t *testing.T) {
	for i, x := range trips(t, 89, 300) {
		to, crashes, _ := world.Step(x.m, world.Copy(x.s), slices.Clone(x.acts))
		if !world.Same(to, x.to) || world.Bytes(to) != world.Bytes(x.to) || !sameCrashes(crashes, x.crashes) {
			t.Error(i, to, x.to)
		}
	}
}

// P4.15
func TestStopsGrow(t *testing.T) {
	d := &dice{90}
	for range 200000 {
		v, b := d.pick(d.roll(1, 3000), d.roll(1, 1000000)), d.pick(30, 60, 90, 300, d.roll(1, 400), d.roll(1, 1000000))
		want := int64(0)
		if v > b {
			want = v - b + world.Stop(v-b, b)
		}
		if world.Stop(v, b) != want {
			t.Error(v, b)
		}
		if more := d.roll(v, 1000000); world.Stop(more, b) < world.Stop(v, b) {
			t.Error(v, more, b)
		}
	}
}

// P4.16
func TestMoreViewShowsMore(t *testing.T) {
	d := &dice{91}
	more := 0
	for i, x := range stages(t, 92, 600) {
		view := d.roll(0, 20000)
		near, wide := world.Seen(x.m, x.s, view), world.Seen(x.m, x.s, view+d.roll(0, 20000))
		for _, s := range near {
			if !slices.ContainsFunc(wide, func(w api.Span) bool { return w.Lane == s.Lane && w.From <= s.From && w.To >= s.To }) {
				t.Error(i, s, wide)
			}
		}
		if !slices.Equal(near, wide) {
			more++
		}
	}
	if more < 100 {
		t.Error("too little more is seen to show anything:", more)
	}
}
