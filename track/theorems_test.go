package track_test

import (
	"slices"
	"testing"

	"kerbstone/api"
	"kerbstone/roads"
	"kerbstone/track"
	"kerbstone/world"
)

// P5.7, P5.8: what is known covers the world, tick by tick, whatever is measured.
func TestStatesStayCovered(t *testing.T) {
	d := &dice{61}
	steps, held, narrow := 0, 0, 0
	for i, x := range scenes(t, 62, 2500) {
		signals := d.often(70)
		for k := range x.s.Agents {
			x.s.Agents[k].Obey = k > 0 && (signals || d.often(50))
		}
		k := track.All(x.m, x.s.Tick, around(x.s, d))
		watch := d.pick(0, 20, 60, 100)
		for range 25 {
			if !world.There(x.s, 0) || touched(x.m, x.s) {
				break
			}
			if k = measured(t, d, x, k, watch); t.Failed() {
				t.Fatal(i, x)
			}
			acts := d.acts(x.s)
			s, crashes, e := world.Step(x.m, x.s, acts)
			if e != api.OK {
				t.Fatal(i, e)
			}
			a := x.s.Agents[0]
			to, sweeps, e := track.Step(x.m, a.Route, a.Len, k, acts[0], signals)
			if e != api.OK {
				t.Fatal(i, e)
			}
			if hitting(crashes) || touched(x.m, s) {
				break
			}
			if !track.Covers(x.m, s, to) {
				t.Fatal(i, x, acts, "\n", k, "\n", to)
			}
			passed(t, x, s, sweeps)
			x.s, k = s, to
			steps++
			for _, b := range k.Blobs {
				if b.Hold > 0 {
					held++
				}
				if b.VHi < bounds(x.m, b.Lane) {
					narrow++
				}
			}
		}
	}
	if steps < 10000 || held < 150 || narrow < 2000 {
		t.Error("too few steps to show anything:", steps, held, narrow)
	}
}

// measured returns what is known with some measurements of a state, and tests
// that it still covers the state.
func measured(t *testing.T, d *dice, x scene, k api.Know, watch int64) api.Know {
	t.Helper()
	covers := func(what string) {
		if !track.Covers(x.m, x.s, k) {
			t.Error(what, k)
		}
	}
	a := x.s.Agents[0]
	covers("what is known")
	var ok bool
	if d.often(watch) {
		if k, ok = track.Speed(k, world.Speed(x.s, d.roll(low/2, far/2))); !ok {
			t.Error("a speed is not possible")
		}
		covers("Speed")
	}
	if d.often(watch) {
		if k, ok = track.Fix(k, world.Fix(x.s, d.roll(low/2, far/2))); !ok {
			t.Error("a place is not possible")
		}
		covers("Fix")
	}
	if d.often(80) {
		k = track.Own(x.m, a.Route, a.Len, k)
		covers("Own")
	}
	if d.often(watch) {
		scan := world.Sense(x.m, x.s, d.pick(1000, 9000, 60000, d.roll(0, 90000)), d.noise(d.pick(0, 60, 600)))
		k = track.Update(x.m, k, scan)
		covers("Update")
		if !track.Explained(x.m, k, scan.Points) {
			t.Error("points are not explained", scan, k)
		}
	}
	return k
}

// passed tests that what an agent passes in a tick, on a lane on which it was
// known before, is in a sweep.
func passed(t *testing.T, x scene, to api.State, sweeps []api.Sweep) {
	t.Helper()
	for i, a := range x.s.Agents {
		if i == 0 || !world.There(x.s, i) {
			continue
		}
		b := to.Agents[i]
		b.Len += b.S - a.S
		for _, part := range world.Body(x.m, b) {
			for s := part.From; s <= part.To; s++ {
				k := slices.IndexFunc(sweeps, func(w api.Sweep) bool { return w.Lane == part.Lane && w.From <= s && s <= w.To })
				if k < 0 {
					t.Fatal(i, part, s, sweeps)
				}
				s = sweeps[k].To
			}
		}
	}
}

// P5.9: who knows more before knows more after.
func TestMoreIsKnownLater(t *testing.T) {
	d := &dice{63}
	steps, behind := 0, 0
	for i, r := range rides(t, 64, 6000) {
		r = r.mid(t, d)
		a := r
		if a.k = d.less(r.m, r.k); track.Check(a.m, a.k) != api.OK || !track.Inside(a.k, r.k) {
			t.Fatal(i, track.Check(a.m, a.k), a.k, r.k)
		}
		if x, y := track.Own(a.m, a.route, a.size, a.k), track.Own(r.m, r.route, r.size, r.k); !track.Inside(x, y) {
			t.Fatal(i, r, "\n", a.k, "\n", x, "\n", y)
		}
		scan := d.scan(r)
		if x, y := track.Update(a.m, a.k, scan), track.Update(r.m, r.k, scan); !track.Inside(x, y) {
			t.Fatal(i, r, scan, "\n", a.k, "\n", x, "\n", y)
		}
		y, sweeps, e := r.step()
		x, fewer, f := a.step()
		if e != api.OK {
			continue
		}
		if f != api.OK || !track.Inside(x, y) {
			t.Fatal(i, f, r, "\n", a.k, "\n", x, "\n", y)
		}
		steps++
		for _, s := range fewer {
			if !slices.ContainsFunc(sweeps, func(o api.Sweep) bool {
				return o.Lane == s.Lane && o.From <= s.From && s.To <= o.To && (s.Behind || !o.Behind)
			}) {
				t.Fatal(i, r, "\n", a.k, "\n", s, sweeps)
			}
			if s.Behind {
				behind++
			}
		}
	}
	if min(steps, behind) < 1000 {
		t.Error("too few steps to show anything:", steps, behind)
	}
}

// P5.10
func TestResultsAreValid(t *testing.T) {
	d := &dice{65}
	for i, r := range rides(t, 66, 3000) {
		check := func(k api.Know, what string) {
			if e := track.Check(r.m, k); e != api.OK {
				t.Error(i, what, e, k)
			}
		}
		for range 4 {
			check(track.Own(r.m, r.route, r.size, r.k), "Own")
			check(track.Update(r.m, r.k, d.scan(r)), "Update")
			e := r.k.Ego
			v, _ := track.Speed(r.k, mark(r.k.Tick, e.VLo+d.roll(-9, 9), e.VHi+d.roll(-9, 9)))
			s, _ := track.Fix(r.k, mark(r.k.Tick, e.SLo+d.roll(-900, 900), e.SHi+d.roll(-900, 900)))
			check(v, "Speed")
			check(s, "Fix")
			to, _, err := r.step()
			if err != api.OK {
				break
			}
			check(to, "Step")
			if to.Tick != r.k.Tick+1 {
				t.Error(i, to.Tick)
			}
			r.k = to
		}
	}
}

// P5.10
func TestJoinedListsStay(t *testing.T) {
	d := &dice{67}
	for i := range 4000 {
		var l []api.Blob
		for range d.roll(0, 12) {
			lo := d.pick(d.roll(-20, 40), d.roll(-20, 40), d.roll(-20, 40), low, far)
			l = append(l, blob(int(d.roll(0, 1)), lo, max(lo, lo+d.roll(-1, 6)), d.roll(0, 9), d.roll(0, 9), d.pick(0, d.roll(1, 9), d.roll(1, 9))))
		}
		once := track.Join(l)
		if !slices.Equal(track.Join(once), once) {
			t.Error(i, once)
		}
		for range 3 {
			other := slices.Clone(l)
			for n := range other {
				k := d.roll(0, int64(n))
				other[n], other[k] = other[k], other[n]
			}
			if !slices.Equal(track.Join(other), once) {
				t.Error(i, l, other)
			}
		}
	}
	for i, r := range rides(t, 68, 1000) {
		if !slices.Equal(track.Join(r.k.Blobs), r.k.Blobs) {
			t.Error(i, r.k)
		}
	}
}

// P5.11
func TestAllIsAroundAll(t *testing.T) {
	for i, r := range rides(t, 69, 2000) {
		all := track.All(r.m, r.k.Tick, r.k.Ego)
		if track.Check(r.m, all) != api.OK || !track.Inside(r.k, all) {
			t.Error(i, r.k, all)
		}
		if n := len(all.Blobs); n != len(r.m.Lanes) {
			t.Error(i, n)
		}
	}
}

// P5.12
func TestFreeAndFound(t *testing.T) {
	d := &dice{70}
	for i, r := range rides(t, 71, 1500) {
		x := d.scan(r)
		hits := track.Found(r.m, x.Points)
		free := track.Free(r.m, x.Seen, hits)
		for lane := range r.m.Lanes {
			seen, yes, no := marked(r.m, lane, x.Seen), marked(r.m, lane, free), marked(r.m, lane, spansOf(hits))
			for s := range seen {
				if yes[s] && no[s] || yes[s] && !seen[s] || seen[s] && !yes[s] && !no[s] {
					t.Fatal(i, lane, s)
				}
			}
		}
	}
}

// The example of the document's last section, up to its second tick.
func TestDocumentExample(t *testing.T) {
	m := api.Map{Lanes: []api.Lane{lane(api.LaneRoad, of(0, 0, 100000, 0))}}
	route := []int{0}
	s, e := world.New(m, []api.Agent{{Route: route, S: 10000, Len: 4000}, {Route: route, S: 30000, V: 100, Len: 4000}})
	if e != api.OK {
		t.Fatal(e)
	}
	k := track.Own(m, route, 4000, track.All(m, 0, ego(10000, 10000, 0, 0)))
	at := func(tick int64, l ...api.Blob) {
		t.Helper()
		if k.Tick != tick || !slices.Equal(k.Blobs, l) || !track.Covers(m, s, k) {
			t.Error(k)
		}
	}
	at(0, blob(0, 0, 5999, 0, 2000), blob(0, 10001, 100000, 0, 2000))
	tick := func(act int64) {
		s, _, _ = world.Step(m, s, []int64{act})
		k, _, _ = track.Step(m, route, 4000, k, act, true)
	}
	tick(0)
	at(1, blob(0, 0, 5999, 0, 2000), blob(0, 10001, 100000, 0, 2000))
	scan := world.Sense(m, s, 60000, nil)
	k = track.Own(m, route, 4000, track.Update(m, k, scan))
	at(1, blob(0, 26000, 30200, 95, 105), blob(0, 31001, 100000, 0, 2000))
	if !slices.Equal(track.Free(m, scan.Seen, track.Found(m, scan.Points)), []api.Span{span(0, 0, 25999), span(0, 30201, 31000)}) {
		t.Error(scan.Seen)
	}
	tick(20)
	at(2, blob(0, 0, 0, 0, 2000), blob(0, 26005, 30335, 5, 135), blob(0, 31001, 100000, 0, 2000))
	if k.Ego != ego(10020, 10020, 20, 20) || roads.Limit(m, 0, 10020, 2) != 100 {
		t.Error(k.Ego)
	}
}
