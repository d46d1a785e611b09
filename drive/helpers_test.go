package drive_test

import (
	"math"
	"slices"

	"kerbstone/api"
	"kerbstone/roads"
)

// far and low are numbers that are in no range.
const far, low = math.MaxInt64, math.MinInt64

// of makes a curve of pairs of coordinates.
func of(l ...int64) api.Curve {
	var c api.Curve
	for i := 0; i+1 < len(l); i += 2 {
		c.Pts = append(c.Pts, api.Spot{X: l[i], Y: l[i+1]})
	}
	return c
}

// road makes a road with the limit 1500.
func road(c api.Curve, next ...int) api.Lane {
	return api.Lane{Kind: api.LaneRoad, Curve: c, Half: 1500, Limit: 1500, Next: next}
}

// zone makes a zone of its parts.
func zone(signal int, parts ...api.Part) api.Zone { return api.Zone{Signal: signal, Parts: parts} }

// part makes a part of a zone.
func part(lane int, from, to int64, rank int) api.Part {
	return api.Part{Lane: lane, From: from, To: to, Rank: rank}
}

// phase makes a phase of a signal.
func phase(ticks int64, green ...int) api.Phase { return api.Phase{Ticks: ticks, Green: green} }

// work makes a work.
func work(lane int, from, to, begin, end, limit int64) api.Work {
	return api.Work{Lane: lane, From: from, To: to, Begin: begin, End: end, Limit: limit}
}

// blob makes a blob: its speeds and its Hold may be left out.
func blob(lane int, lo, hi int64, more ...int64) api.Blob {
	more = append(more, 0, 0, 0)
	return api.Blob{Lane: lane, Lo: lo, Hi: hi, VLo: more[0], VHi: more[1], Hold: more[2]}
}

// know makes what is known at a tick.
func know(tick int64, ego api.Ego, l ...api.Blob) api.Know {
	return api.Know{Tick: tick, Ego: ego, Blobs: l}
}

// ego makes the bounds of a vehicle.
func ego(slo, shi, vlo, vhi int64) api.Ego { return api.Ego{SLo: slo, SHi: shi, VLo: vlo, VHi: vhi} }

// acts makes a plan.
func acts(l ...int64) api.Plan { return api.Plan{Acts: l} }

// car is the car of the chapter's examples.
func car() api.Car { return api.Car{Len: 4000, Accel: 20, Brake: 60, Rate: 30} }

// setup is the setup of the chapter's examples.
func setup() api.NodeSetup {
	return api.NodeSetup{Map: straight(), Route: []int{0}, Car: car(), Ego: ego(10000, 10000, 0, 0), Budget: 8, Silence: 5, Signals: true}
}

// mark makes a mark.
func mark(stamp, lo, hi int64) api.Mark { return api.Mark{Stamp: stamp, Lo: lo, Hi: hi} }

// span makes a part of a lane.
func span(lane int, from, to int64) api.Span { return api.Span{Lane: lane, From: from, To: to} }

// seen makes a scan without points.
func seen(stamp int64, l ...api.Span) api.Scan { return api.Scan{Stamp: stamp, Seen: l} }

// point makes a point.
func point(x, y, v int64) api.Point { return api.Point{X: x, Y: y, V: v} }

// straight is a map of one road.
func straight(works ...api.Work) api.Map {
	return api.Map{Lanes: []api.Lane{road(of(0, 0, 100000, 0))}, Works: works}
}

// cross is the map of the examples of layer 3.
func cross() api.Map {
	return api.Map{
		Lanes: []api.Lane{road(of(0, 0, 100000, 0)), road(of(50000, -50000, 50000, 50000))},
		Zones: []api.Zone{zone(0, part(0, 48000, 52000, 1), part(1, 48000, 52000, 0))},
	}
}

// lights is that map with a signal, which is green for the lane 0 at the ticks
// 0 to 9, for none at 10 to 14, and for the lane 1 at 15 to 24.
func lights() api.Map {
	m := cross()
	m.Signals = []api.Signal{{Phases: []api.Phase{phase(10, 0), phase(5), phase(10, 1)}}}
	m.Zones[0].Signal = 1
	return m
}

// merge is a map with two roads that go on in one.
func merge() api.Map {
	return api.Map{
		Lanes: []api.Lane{road(of(0, 0, 30000, 0), 2), road(of(6000, -10000, 30000, 0), 2), road(of(30000, 0, 60000, 0))},
		Zones: []api.Zone{zone(0, part(0, 25000, 30000, 1), part(1, 20000, 26000, 0), part(2, 0, 5000, 0))},
	}
}

// fork is a map of short lanes: the roads 0 and 1 come together, and go on as 2,
// which forks into 3 and 4; from 0 one may go on to 4 without 2, from 3 to 5,
// too; 6 is a way for bikes that goes on as 7, and 8 one for walkers.
func fork() api.Map {
	m := api.Map{
		Lanes: []api.Lane{
			road(of(0, 0, 3000, 0), 2, 4),
			road(of(3000, -5000, 3000, 0), 2),
			road(of(3000, 0, 4000, 0), 3),
			road(of(4000, 0, 5000, 0), 5),
			road(of(3000, 0, 3800, 600, 3800, 2600)),
			road(of(5000, 0, 9000, 0)),
			road(of(0, 9000, 1500, 9000), 7),
			road(of(1500, 9000, 6000, 9000)),
			road(of(7000, 500, 7000, -1500)),
		},
		Zones: []api.Zone{
			zone(0, part(0, 1000, 3000, 2), part(1, 4000, 5000, 1), part(2, 0, 400, 0)),
			zone(1, part(5, 1500, 2500, 7), part(8, 0, 900, 9)),
			zone(1, part(5, 3000, 3500, 7), part(7, 2000, 3000, 9)),
		},
		Signals: []api.Signal{{Offset: 3, Phases: []api.Phase{phase(40, 5), phase(2), phase(5, 8)}}},
	}
	for i, kind := range []int{api.LaneBike, api.LaneBike, api.LaneWalk} {
		m.Lanes[6+i].Kind, m.Lanes[6+i].Limit = kind, 100
	}
	return m
}

// dice are numbers that look random, and are the same in each run.
type dice struct{ state uint64 }

// roll returns a number from lo to hi.
func (d *dice) roll(lo, hi int64) int64 {
	d.state ^= d.state << 13
	d.state ^= d.state >> 7
	d.state ^= d.state << 17
	return lo + int64((d.state>>8)%uint64(hi-lo+1))
}

// pick returns one of the numbers.
func (d *dice) pick(l ...int64) int64 { return l[d.roll(0, int64(len(l))-1)] }

// often reports true in so many of a hundred cases.
func (d *dice) often(percent int64) bool { return d.roll(1, 100) <= percent }

// noise returns numbers of any size.
func (d *dice) noise(count int64) []int64 {
	var l []int64
	for range count {
		l = append(l, d.pick(0, -1, 1, far, low, d.roll(-300, 300), d.roll(-far, far-1)))
	}
	return l
}

// town returns a map that fits: lanes between five nodes on a line, which lead
// to each other, and some that cross them; with zones, signals and works.
func (d *dice) town() api.Map {
	for {
		if m := d.streets(); roads.Fit(m) {
			return m
		}
	}
}

func (d *dice) streets() api.Map {
	var m api.Map
	nodes := []int64{0}
	for range 5 {
		nodes = append(nodes, nodes[len(nodes)-1]+8*d.pick(125, 500, d.roll(125, 500), d.roll(500, 4000)))
	}
	count := d.roll(2, 9)
	ends := []int64{}
	for i := range count {
		from := i * 5 / count
		to := min(5, from+d.pick(1, 1, 2))
		l := road(d.way(nodes[from], nodes[to]))
		if d.often(20) {
			x := d.roll(0, nodes[5])
			from, to, l = -1, -1, road(of(x, -1000, x, d.roll(0, 2000)))
			l.Kind, l.Limit = int(d.roll(1, 3)), 100
		}
		for k := range m.Lanes {
			if from >= 0 && ends[k] == from && len(m.Lanes[k].Next) < api.MaxNext && d.often(80) {
				m.Lanes[k].Next = append(m.Lanes[k].Next, int(i))
			}
		}
		m.Lanes, ends = append(m.Lanes, l), append(ends, to)
	}
	d.control(&m)
	d.build(&m)
	return m
}

// way returns a curve from one coordinate to another one, straight or with a
// turn.
func (d *dice) way(from, to int64) api.Curve {
	k := (to - from) / 8
	if k < 200 || d.often(50) {
		return of(from, 0, to, 0)
	}
	return of(from, 0, from+4*k, 3*k*d.pick(-1, 1), to, 0)
}

// control puts zones into a map: one at each lane where others come together,
// and some more; and a signal for some of them.
func (d *dice) control(m *api.Map) {
	for lane := range m.Lanes {
		if l := roads.Before(*m, lane); len(l) > 1 {
			z := zone(0, part(lane, 0, d.roll(1, length(*m, lane)), 0))
			for i, b := range l {
				n := length(*m, b)
				z.Parts = append(z.Parts, part(b, d.pick(0, d.roll(0, n-1), n-d.roll(1, 300)), n, i+1))
			}
			d.put(m, z)
		}
	}
	for range d.roll(0, 4) {
		a, b := int(d.roll(0, int64(len(m.Lanes))-1)), int(d.roll(0, int64(len(m.Lanes))-1))
		if a != b {
			from, other := d.roll(0, length(*m, a)-1), d.roll(0, length(*m, b)-1)
			to, end := from+d.roll(1, 4000), other+d.roll(1, 4000)
			d.put(m, zone(0, part(a, from, min(to, length(*m, a)), 1), part(b, other, min(end, length(*m, b)), 2)))
		}
	}
}

// put puts a zone into a map, often with a signal of its own.
func (d *dice) put(m *api.Map, z api.Zone) {
	slices.SortFunc(z.Parts, func(a, b api.Part) int { return a.Lane - b.Lane })
	if len(m.Signals) < api.MaxSignals && d.often(70) {
		s := api.Signal{Offset: d.roll(0, 60)}
		for _, p := range z.Parts {
			s.Phases = append(s.Phases, phase(d.roll(1, 60), p.Lane), phase(d.roll(1, 5)))
		}
		s.Phases = s.Phases[:min(len(s.Phases), api.MaxPhases)]
		m.Signals = append(m.Signals, s)
		z.Signal = len(m.Signals)
	}
	m.Zones = append(m.Zones, z)
}

// build puts works into a map, and changes the limits of its roads.
func (d *dice) build(m *api.Map) {
	for i := range m.Lanes {
		if m.Lanes[i].Kind == api.LaneRoad && d.often(30) {
			m.Lanes[i].Limit = d.pick(2000, 100, d.roll(20, 600))
		}
	}
	for range d.roll(-3, 3) {
		lane := int(d.roll(0, int64(len(m.Lanes))-1))
		n := length(*m, lane)
		from, begin := d.pick(0, n, d.roll(0, n)), d.roll(0, 60)
		most, _, _ := roads.Bounds(m.Lanes[lane].Kind)
		m.Works = append(m.Works, work(lane, from, d.pick(from, min(n, from+d.roll(0, 900)), n), begin, begin+d.roll(1, 60), d.pick(0, d.roll(0, most), d.roll(0, min(most, 300)))))
	}
}

// routes returns all routes of a valid map whose lanes are of a kind, or all of
// them for the kind 0.
func routes(m api.Map, kind int) [][]int {
	var l [][]int
	var follow func(route []int)
	follow = func(route []int) {
		if roads.CheckRoute(m, route) != api.OK {
			return
		}
		l = append(l, slices.Clone(route))
		for _, next := range m.Lanes[route[len(route)-1]].Next {
			follow(append(slices.Clone(route), next))
		}
	}
	for i, lane := range m.Lanes {
		if kind == 0 || lane.Kind == kind {
			follow([]int{i})
		}
	}
	return l
}

// route returns one of the routes of a map, often a long one.
func (d *dice) route(m api.Map, kind int) []int {
	l := routes(m, kind)
	if len(l) == 0 {
		return nil
	}
	route := l[d.roll(0, int64(len(l))-1)]
	if other := l[d.roll(0, int64(len(l))-1)]; len(other) > len(route) {
		return other
	}
	return route
}

// car returns a car.
func (d *dice) car() api.Car {
	return api.Car{
		Len:   d.pick(300, 1000, 4000, d.roll(300, 6000), d.roll(300, 20000)),
		Accel: d.pick(1, 20, 30, d.roll(1, 30)),
		Brake: d.pick(20, 60, 90, d.roll(20, 90)),
		Rate:  d.pick(5, 30, 120, d.roll(5, 120)),
		Delay: int(d.roll(0, 5)),
	}
}

// length returns the length of a lane.
func length(m api.Map, lane int) int64 { return roads.Length(m, lane) }
