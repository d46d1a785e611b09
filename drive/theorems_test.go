package drive_test

import (
	"slices"
	"testing"

	"kerbstone/api"
	"kerbstone/drive"
	"kerbstone/track"
)

// P8.6: whatever a node is told, its plan is verified behind each tick in which
// it drives; and otherwise, too, as long as the world has not contradicted.
func TestVerdicts(t *testing.T) {
	t.Parallel()
	d := &dice{88}
	count := map[string]int{}
	for i, x := range rides(t, 89, 120) {
		c, p, clashes := made(x.setup), post{}, 0
		for range 24 {
			tick := x.n.Now()
			d.scatter(p, tick, x.measure(d))
			if i%3 > 0 && d.often(20) {
				p.send(tick, d.lie(x.n))
			}
			do(t, x.n, p.arrive(tick))
			c.tick(p.arrive(tick))
			drives, f := x.n.Mode() == api.ModeDrive, x.n.Verdict()
			if !f.OK && (drives || c.clashes == clashes) || f.OK && f != (api.Finding{OK: true}) {
				t.Fatal(i, tick, drives, f, x.n.Know(), x.n.Plan())
			}
			switch {
			case drives && c.know.Ego.VHi > 0:
				count["drives"]++
			case !drives && c.clashes == clashes:
				count["fell back"]++
			case !f.OK:
				count["not verified"]++
			}
			if x.n.Reset() == api.OK {
				c.reset()
				clashes = c.clashes
				count["reset"]++
			}
			x.move(t, d, act(x.n))
		}
	}
	if count["drives"] < 800 || count["fell back"] < 80 || count["not verified"] < 20 || count["reset"] < 40 {
		t.Error("too few ticks to show anything:", count)
	}
}

// P8.7: a node that is told less knows no more, as long as both have the same
// acts.
func TestToldLess(t *testing.T) {
	t.Parallel()
	d := &dice{90}
	count := map[string]int{}
	for i, x := range rides(t, 91, 160) {
		x.setup.Silence = 1000
		x.n = node(t, x.setup)
		less := node(t, x.setup)
		more, fewer := post{}, post{}
		lost := func() int64 { return d.pick(0, 50, 100) }
		scans, speeds, fixes := lost(), lost(), lost()
		for range 24 {
			tick := x.n.Now()
			l := x.measure(d)
			at := tick + d.pick(0, 0, d.roll(0, api.MaxLate))
			if d.often(30) {
				l.Scans = append(l.Scans, x.scan(d))
			}
			more.send(at, l)
			if d.often(scans) {
				l.Scans = nil
			}
			if d.often(speeds) {
				l.Speeds = nil
			}
			if d.often(fixes) {
				l.Fixes = nil
			}
			fewer.send(at, l)
			do(t, x.n, more.arrive(tick))
			do(t, less, fewer.arrive(tick))
			if x.n.Mode() != api.ModeDrive || less.Mode() != api.ModeDrive {
				t.Fatal(i, tick, "the truth contradicts")
			}
			if !track.Inside(x.n.Know(), less.Know()) {
				t.Fatal(i, tick, x.n.Know(), less.Know())
			}
			if !track.Same(x.n.Know(), less.Know()) {
				count["less"]++
			}
			if x.n.Know().Ego.VHi > 0 {
				count["moving"]++
			}
			if act(x.n) != act(less) {
				count["other acts"]++
				break
			}
			if hit(x.move(t, d, act(x.n))) {
				break
			}
		}
	}
	if count["less"] < 600 || count["moving"] < 800 || count["other acts"] < 5 {
		t.Error("too few ticks to show anything:", count)
	}
}

// P8.8: neither the order in which the measurements come, nor how late they
// come, changes what is known in the end.
func TestOrderAndLateness(t *testing.T) {
	t.Parallel()
	d := &dice{92}
	count := map[string]int{}
	for i, x := range rides(t, 93, 160) {
		other := node(t, x.setup)
		a, b := post{}, post{}
		end := x.n.Now() + d.roll(5, 20)
		for tick := x.n.Now(); tick <= end+api.MaxLate; tick++ {
			if l := x.measure(d); tick <= end {
				l.Speeds = append(l.Speeds, mark(tick, d.roll(-9, x.s.Agents[0].V), far))
				l.Fixes = append(l.Fixes, mark(tick, x.s.Agents[0].S-d.roll(0, 300), x.s.Agents[0].S+d.roll(0, 300)))
				d.split(a, tick, l)
				d.split(b, tick, l)
			}
			do(t, x.n, a.arrive(tick))
			do(t, other, b.arrive(tick))
			if act(x.n) != act(other) {
				break
			}
			same := track.Same(x.n.Know(), other.Know())
			switch {
			case tick == end+api.MaxLate && !same:
				t.Fatal(i, tick, x.n.Know(), other.Know())
			case tick == end+api.MaxLate:
				count["same"]++
				if x.n.Know().Ego.VHi > 0 {
					count["moving"]++
				}
			case !same:
				count["not yet"]++
			}
			if hit(x.move(t, d, act(x.n))) {
				break
			}
		}
	}
	if count["same"] < 30 || count["moving"] < 15 || count["not yet"] < 100 {
		t.Error("too few ticks to show anything:", count)
	}
}

// split sends each measurement of a tick by itself, in any order, and up to
// MaxLate ticks late.
func (d *dice) split(p post, tick int64, x api.Input) {
	late := func() int64 { return tick + d.pick(0, 0, d.roll(0, api.MaxLate)) }
	for _, s := range x.Scans {
		p.send(late(), api.Input{Scans: []api.Scan{s}})
	}
	if d.often(50) {
		slices.Reverse(x.Speeds)
		slices.Reverse(x.Fixes)
	}
	for _, s := range x.Speeds {
		p.send(late(), api.Input{Speeds: []api.Mark{s}})
	}
	for _, s := range x.Fixes {
		p.send(late(), api.Input{Fixes: []api.Mark{s}})
	}
}

// P8.9: the actuators do the acts of the node's plan exactly, if they are given
// the command of each tick, with one circuit and the grip of Brake at least.
func TestActuatorsDoThePlan(t *testing.T) {
	t.Parallel()
	d := &dice{94}
	moved := 0
	for i, x := range rides(t, 95, 160) {
		p, c := post{}, x.setup.Car
		for range 30 {
			tick := x.n.Now()
			d.scatter(p, tick, x.measure(d))
			if i%3 == 0 {
				p.send(tick, d.lie(x.n))
			}
			command := do(t, x.n, p.arrive(tick))
			before := x.x
			var got int64
			x.x, got = drive.Actuate(c, before, command, int(d.pick(1, 2, 7)), d.pick(c.Brake, 90, d.roll(c.Brake, 90), far))
			if to, most := drive.Actuate(c, before, command, 2, 90); got != act(x.n) || most != got || !sameActuators(to, x.x) {
				t.Fatal(i, tick, command, got, x.n.Plan(), before)
			}
			if got != 0 && c.Delay > 0 {
				moved++
			}
			x.n.Reset()
			x.move(t, d, got)
		}
	}
	if moved < 500 {
		t.Error("too few ticks to show anything:", moved)
	}
}

// P8.10: without scans a node falls back Silence ticks after the last one, and
// stands then; a reset lets it drive again.
func TestFallingBack(t *testing.T) {
	t.Parallel()
	d := &dice{96}
	moving, again, longest := 0, 0, 0
	for i, x := range rides(t, 97, 160) {
		if x.setup.Silence > 20 {
			continue
		}
		last := x.setup.Tick
		for range d.roll(0, 20) {
			tick := x.n.Now()
			last = tick
			do(t, x.n, api.Input{Tick: tick, Scans: []api.Scan{x.scan(d)}})
			if hit(x.move(t, d, act(x.n))) {
				break
			}
		}
		for x.n.Mode() == api.ModeDrive {
			if x.n.Now() > last+int64(x.setup.Silence)+1 {
				t.Fatal(i, x.n.Now(), last)
			}
			idle(t, x.n, 1)
		}
		if x.n.Now() != last+int64(x.setup.Silence)+2 {
			t.Error(i, x.n.Now(), last)
		}
		if x.n.Know().Ego.VHi > 0 {
			moving++
		}
		ticks := 0
		for ; x.n.Know().Ego.VHi > 0; ticks++ {
			idle(t, x.n, 1)
		}
		longest = max(longest, ticks)
		if x.n.Mode() != api.ModeFallback || x.n.Reset() != api.OK || x.n.Mode() != api.ModeDrive {
			t.Error(i, x.n.Mode(), x.n.Verdict())
		}
		for range min(x.setup.Silence, 8) {
			if idle(t, x.n, 1); x.n.Mode() != api.ModeDrive {
				t.Error(i, x.n.Mode())
			}
			if act(x.n) > 0 {
				again++
			}
		}
	}
	if moving < 40 || longest > 150 || longest < 20 {
		t.Error("too few ticks to show anything:", moving, again, longest)
	}
}

// P8.12, T1, T2: told nothing but what is measured in a world, a node always
// knows where somebody may be, and is responsible for no crash, up to the first
// one of the vehicle.
func TestWorlds(t *testing.T) {
	t.Parallel()
	d := &dice{98}
	count := map[string]int{}
	for i, x := range rides(t, 99, 200) {
		p := post{}
		if i%3 > 0 {
			x.setup.Silence = 1000
			x.n = node(t, x.setup)
		}
		if !track.Covers(x.setup.Map, x.s, x.n.Know()) {
			t.Fatal(i, "the beginning")
		}
		for range 40 {
			tick := x.n.Now()
			d.scatter(p, tick, x.measure(d))
			command := do(t, x.n, p.arrive(tick))
			if x.setup.Silence == 1000 && x.n.Mode() != api.ModeDrive {
				t.Fatal(i, tick, "the truth contradicts")
			}
			if !track.Covers(x.setup.Map, x.s, x.n.Know()) {
				t.Fatal(i, tick, x.s, x.n.Know())
			}
			if f := x.n.Verdict(); !f.OK {
				t.Fatal(i, tick, f)
			}
			var own int64
			x.x, own = drive.Actuate(x.setup.Car, x.x, command, 1, x.setup.Car.Brake)
			hits := x.move(t, d, own)
			if own != act(x.n) || guilty(hits) {
				t.Fatal(i, tick, own, act(x.n), hits)
			}
			count["ticks"]++
			if x.s.Agents[0].V > 0 {
				count["moving"]++
			}
			if slices.ContainsFunc(x.s.In, func(y api.Stay) bool { return y.Agent == 0 }) {
				count["in a zone"]++
			}
			if hit(hits) {
				count["hit"]++
				break
			}
			if x.n.Reset() == api.OK {
				count["reset"]++
			}
		}
	}
	if count["moving"] < 2500 || count["in a zone"] < 30 || count["hit"] < 10 || count["reset"] < 5 {
		t.Error("too few ticks to show anything:", count)
	}
}

// P8.6, T2: a node that is told nothing any more still knows where somebody may
// be, and its plan is verified until the vehicle stands.
func TestNothingIsTold(t *testing.T) {
	t.Parallel()
	d := &dice{100}
	moving := 0
	for i, x := range rides(t, 101, 120) {
		for tick := range 30 {
			input := api.Input{Tick: x.n.Now()}
			if tick < 4 {
				input.Scans = []api.Scan{x.scan(d)}
			}
			do(t, x.n, input)
			if !track.Covers(x.setup.Map, x.s, x.n.Know()) || !x.n.Verdict().OK {
				t.Fatal(i, tick, x.s, x.n.Know(), x.n.Verdict())
			}
			if x.s.Agents[0].V > 0 {
				moving++
			}
			if hits := x.move(t, d, act(x.n)); guilty(hits) {
				t.Fatal(i, tick, hits)
			} else if hit(hits) {
				break
			}
		}
	}
	if moving < 600 {
		t.Error("too few ticks to show anything:", moving)
	}
}
