package drive_test

import (
	"slices"
	"testing"

	"kerbstone/api"
	"kerbstone/drive"
	"kerbstone/plan"
	"kerbstone/roads"
	"kerbstone/world"
)

// ride is a world whose vehicle has a node, and actuators.
type ride struct {
	setup api.NodeSetup
	s     api.State
	n     *drive.Node
	x     api.Actuator
}

// rides returns rides in their beginning. All others obey if the node assumes
// it.
func rides(t *testing.T, seed uint64, count int) []ride {
	t.Helper()
	d := &dice{seed}
	maps := []func() api.Map{straight1, cross, lights, merge, fork}
	var l []ride
	for len(l) < count {
		m, c := d.town(), d.car()
		switch {
		case len(l)%4 == 0:
			m = maps[len(l)/4%len(maps)]()
		case len(l)%4 == 1:
			m, c.Len = crossing(), d.roll(300, 900)
		}
		x := ride{setup: api.NodeSetup{Map: m, Car: c, Budget: int(d.pick(8, 8, 8, d.roll(0, 8))), Silence: int(d.pick(5, 5, 1000, d.roll(0, 9))), Signals: d.often(60)}}
		if !d.begin(&x) {
			continue
		}
		n, e := drive.NewNode(x.setup)
		if e != api.OK {
			t.Fatal(len(l), e, x.setup)
		}
		x.n = n
		l = append(l, x)
	}
	return l
}

// straight1 is a map of one road.
func straight1() api.Map { return straight() }

// crossing is a map of roads that cross with a signal, which is green for a long
// time; before it all who come in can stop.
func crossing() api.Map {
	return api.Map{
		Lanes:   []api.Lane{road(of(0, 0, 9000, 0)), road(of(3000, -27000, 3000, 9000))},
		Zones:   []api.Zone{zone(1, part(0, 2900, 3100, 0), part(1, 26900, 27100, 0))},
		Signals: []api.Signal{{Phases: []api.Phase{phase(200, 0), phase(30), phase(200, 1)}}},
	}
}

// begin makes a world in which the vehicle stands outside of all zones, and
// what a node is told of it.
func (d *dice) begin(x *ride) bool {
	m, size := x.setup.Map, x.setup.Car.Len
	route := d.route(m, api.LaneRoad)
	if route == nil || roads.RouteLength(m, route) <= size+1 {
		return false
	}
	n := roads.RouteLength(m, route)
	a := api.Agent{Route: route, Len: size, S: d.roll(size+1, n)}
	for _, p := range roads.Passes(m, route) {
		if p.From > size+1 && d.often(50) {
			a.S = p.From - d.roll(1, min(900, p.From-size-1))
		}
	}
	x.setup.Route, x.setup.Ego = route, ego(a.S, a.S, 0, 0)
	if drive.CheckSetup(x.setup) != api.OK {
		return false
	}
	l := []api.Agent{a}
	for range d.roll(0, 6) {
		other := d.someone(m)
		other.Obey = x.setup.Signals || d.often(50)
		if _, e := world.New(m, append(slices.Clone(l), other)); e == api.OK {
			l = append(l, other)
		}
	}
	var e api.Errno
	x.s, e = world.New(m, l)
	return e == api.OK && d.wait(x) && d.blur(x)
}

// someone returns an agent for the beginning of a world.
func (d *dice) someone(m api.Map) api.Agent {
	a := api.Agent{Route: d.route(m, 0)}
	a.Len = d.pick(300, 1000, d.roll(300, 3000), d.roll(300, 20000))
	n := roads.RouteLength(m, a.Route)
	most, _, _ := roads.Bounds(m.Lanes[a.Route[0]].Kind)
	a.V = d.pick(0, most, d.roll(0, most), d.roll(0, min(most, 300)))
	a.S = d.pick(0, n, d.roll(0, n), d.roll(0, n), d.roll(0, n+a.Len))
	if d.often(20) {
		a.S, a.Begin = 0, d.roll(1, 30)
	}
	return a
}

// wait lets the world go on for some time before the node is made.
func (d *dice) wait(x *ride) bool {
	if d.often(50) {
		return true
	}
	for range d.roll(0, 60) {
		acts := d.behaviour(x.s)
		acts[0] = 0
		to, hits, e := world.Step(x.setup.Map, x.s, acts)
		if e != api.OK || hit(hits) {
			return false
		}
		x.s = to
	}
	x.setup.Tick = x.s.Tick
	return true
}

// blur makes the place of the vehicle less well known.
func (d *dice) blur(x *ride) bool {
	s := x.setup
	s.Ego.SLo -= d.pick(0, 0, d.roll(0, 400))
	s.Ego.SHi += d.pick(0, 0, d.roll(0, 400))
	if drive.CheckSetup(s) == api.OK {
		x.setup = s
	}
	return true
}

// behaviour returns accelerations for the agents of a state.
func (d *dice) behaviour(s api.State) []int64 {
	var l []int64
	for range s.Agents {
		l = append(l, d.pick(0, far, low, 30, -90, d.roll(-95, 35), d.roll(-310, 110)))
	}
	return l
}

// hit reports whether the vehicle is in a crash.
func hit(l []api.Crash) bool {
	return slices.ContainsFunc(l, func(c api.Crash) bool { return c.A == 0 })
}

// guilty reports whether the vehicle is responsible for a crash.
func guilty(l []api.Crash) bool {
	return slices.ContainsFunc(l, func(c api.Crash) bool { return slices.Contains(c.Who, 0) })
}

// act returns the act of the last tick of a node.
func act(n *drive.Node) int64 { return plan.Act(n.Plan(), 0) }

// scan returns a scan of the ride's world, with a noise.
func (x ride) scan(d *dice) api.Scan {
	return world.Sense(x.setup.Map, x.s, d.pick(20000, 90000, 90000, d.roll(0, 30000)), d.noise(300))
}

// measure returns all that is measured in the ride's world at its tick.
func (x ride) measure(d *dice) api.Input {
	return api.Input{
		Scans:  []api.Scan{x.scan(d)},
		Speeds: []api.Mark{world.Speed(x.s, d.roll(low/2, far/2))},
		Fixes:  []api.Mark{world.Fix(x.s, d.roll(low/2, far/2))},
	}
}

// move does a tick of the world, in which the vehicle has an acceleration.
func (x *ride) move(t *testing.T, d *dice, own int64) []api.Crash {
	t.Helper()
	acts := d.behaviour(x.s)
	acts[0] = own
	to, hits, e := world.Step(x.setup.Map, x.s, acts)
	if e != api.OK {
		t.Fatal(e, x)
	}
	x.s = to
	return hits
}

// post is what arrives at each tick.
type post map[int64]api.Input

// send lets measurements arrive at a tick.
func (p post) send(tick int64, x api.Input) {
	to := p[tick]
	to.Scans = append(slices.Clone(to.Scans), x.Scans...)
	to.Speeds = append(slices.Clone(to.Speeds), x.Speeds...)
	to.Fixes = append(slices.Clone(to.Fixes), x.Fixes...)
	p[tick] = to
}

// arrive returns what arrives at a tick, at most 8 of each kind.
func (p post) arrive(tick int64) api.Input {
	x := p[tick]
	x.Tick = tick
	x.Scans, x.Speeds, x.Fixes = x.Scans[:min(8, len(x.Scans))], x.Speeds[:min(8, len(x.Speeds))], x.Fixes[:min(8, len(x.Fixes))]
	return x
}

// scatter sends measurements of a tick: some are lost, some are late, some
// come twice.
func (d *dice) scatter(p post, tick int64, x api.Input) {
	late := func() int64 { return tick + d.pick(0, 0, d.roll(0, api.MaxLate), d.roll(0, api.MaxLate+2)) }
	for range d.pick(0, 1, 1, 1, 1, 2) {
		p.send(late(), api.Input{Scans: x.Scans})
	}
	for range d.pick(0, 1, 1, 2) {
		p.send(late(), api.Input{Speeds: x.Speeds})
	}
	for range d.pick(0, 1, 1, 2) {
		p.send(late(), api.Input{Fixes: x.Fixes})
	}
}

// lie returns measurements that need not be true: of any tick near the one of a
// node, and near what it knows.
func (d *dice) lie(n *drive.Node) api.Input {
	k := n.Know()
	stamp := func() int64 {
		return d.pick(n.Now(), n.Now()-d.roll(0, 5), n.Now()+d.roll(-6, 2), d.pick(0, far, low))
	}
	m := n.Setup().Map
	var x api.Input
	for range d.roll(0, 2) {
		v := k.Ego.VHi + act(n)
		x.Speeds = append(x.Speeds, mark(stamp(), v-d.roll(-1, 30), v+d.roll(-1, 30)))
	}
	for range d.roll(0, 2) {
		x.Fixes = append(x.Fixes, mark(stamp(), k.Ego.SLo-d.roll(-50, 300), k.Ego.SHi+k.Ego.VHi+d.roll(-50, 300)))
	}
	for range d.roll(0, 2) {
		s := api.Scan{Stamp: stamp()}
		for range d.roll(0, 3) {
			lane := int(d.roll(-1, int64(len(m.Lanes))))
			s.Seen = append(s.Seen, span(lane, d.roll(0, 3000), d.roll(3000, max(3000, length(m, lane)))))
		}
		for range d.pick(0, 0, 1, 3) {
			spot := m.Lanes[d.roll(0, int64(len(m.Lanes))-1)].Curve.Pts[0]
			s.Points = append(s.Points, point(spot.X+d.roll(-9000, 9000), spot.Y+d.pick(0, d.roll(-3000, 3000)), d.roll(-9, 400)))
		}
		x.Scans = append(x.Scans, s)
	}
	return x
}
