package track_test

import (
	"math"
	"slices"
	"testing"

	"kerbstone/api"
	"kerbstone/roads"
	"kerbstone/track"
)

// far and low are numbers that are in no range.
const far, low = math.MaxInt64, math.MinInt64

// of makes a curve of pairs of coordinates.
func of(l ...int64) api.Curve {
	var c api.Curve
	for i := 0; i+1 < len(l); i += 2 {
		c.Pts = append(c.Pts, api.Spot{X: l[i], Y: l[i+1]})
	}
	return c
}

// lane makes a lane of a kind, with the limit 100.
func lane(kind int, c api.Curve, next ...int) api.Lane {
	return api.Lane{Kind: kind, Curve: c, Half: 1500, Limit: 100, Next: next}
}

// zone makes a zone of its parts.
func zone(signal int, parts ...api.Part) api.Zone { return api.Zone{Signal: signal, Parts: parts} }

// part makes a part of a zone.
func part(lane int, from, to int64, rank int) api.Part {
	return api.Part{Lane: lane, From: from, To: to, Rank: rank}
}

// phase makes a phase of a signal.
func phase(ticks int64, green ...int) api.Phase { return api.Phase{Ticks: ticks, Green: green} }

// blob makes a blob: its speeds and its Hold may be left out.
func blob(lane int, lo, hi int64, more ...int64) api.Blob {
	more = append(more, 0, 0, 0)
	return api.Blob{Lane: lane, Lo: lo, Hi: hi, VLo: more[0], VHi: more[1], Hold: more[2]}
}

// know makes what is known at a tick.
func know(tick int64, ego api.Ego, l ...api.Blob) api.Know {
	return api.Know{Tick: tick, Ego: ego, Blobs: l}
}

// ego makes the bounds of a vehicle.
func ego(slo, shi, vlo, vhi int64) api.Ego { return api.Ego{SLo: slo, SHi: shi, VLo: vlo, VHi: vhi} }

// span makes a part of a lane.
func span(lane int, from, to int64) api.Span { return api.Span{Lane: lane, From: from, To: to} }

// sweep makes what was passed in a step.
func sweep(lane int, from, to int64, behind bool) api.Sweep {
	return api.Sweep{Lane: lane, From: from, To: to, Behind: behind}
}

// cross is the map of the chapter's examples.
func cross() api.Map {
	return api.Map{
		Lanes: []api.Lane{lane(1, of(0, 0, 100000, 0)), lane(1, of(50000, -50000, 50000, 50000))},
		Zones: []api.Zone{zone(0, part(0, 48000, 52000, 1), part(1, 48000, 52000, 0))},
	}
}

// lights is that map with a signal, which is green for the lane 0 at the ticks
// 0 to 9, for none at 10 to 14, and for the lane 1 at 15 to 24.
func lights() api.Map {
	m := cross()
	m.Signals = []api.Signal{{Phases: []api.Phase{phase(10, 0), phase(5), phase(10, 1)}}}
	m.Zones[0].Signal = 1
	return m
}

// fork is a map of short lanes: the roads 0 and 1 come together, and go on as 2,
// which forks into 3 and 4; from 0 one may go on to 4 without 2, from 3 to 5,
// too; 6 is a way for bikes that goes on as 7, and 8 one for walkers.
func fork() api.Map {
	return api.Map{
		Lanes: []api.Lane{
			lane(1, of(0, 0, 3000, 0), 2, 4),
			lane(1, of(3000, -5000, 3000, 0), 2),
			lane(1, of(3000, 0, 4000, 0), 3),
			lane(1, of(4000, 0, 5000, 0), 5),
			lane(1, of(3000, 0, 3800, 600, 3800, 2600)),
			lane(1, of(5000, 0, 9000, 0)),
			lane(2, of(0, 9000, 1500, 9000), 7),
			lane(2, of(1500, 9000, 6000, 9000)),
			lane(3, of(7000, 500, 7000, -1500)),
		},
		Zones: []api.Zone{
			zone(0, part(0, 1000, 3000, 2), part(1, 4000, 5000, 1), part(2, 0, 400, 0)),
			zone(1, part(5, 1500, 2500, 7), part(8, 0, 900, 9)),
			zone(1, part(5, 3000, 3500, 7), part(7, 2000, 3000, 9)),
		},
		Signals: []api.Signal{{Offset: 3, Phases: []api.Phase{phase(4, 5), phase(2), phase(5, 8)}}},
	}
}

// loop is a map on which one may go around the lane 1, between 0 and 2, or not.
func loop() api.Map {
	around := of(5000, 0, 6000, 0, 6800, 600, 7400, 1400, 7400, 2400, 6800, 3200, 6000, 3800, 5000, 3800, 4200, 3200, 3600, 2400, 3600, 1400, 4200, 600, 5000, 0)
	return api.Map{Lanes: []api.Lane{lane(1, of(0, 0, 5000, 0), 1, 2), lane(1, around, 2), lane(1, of(5000, 0, 9000, 0))}}
}

// dice are numbers that look random, and are the same in each run.
type dice struct{ state uint64 }

// roll returns a number from lo to hi.
func (d *dice) roll(lo, hi int64) int64 {
	d.state ^= d.state << 13
	d.state ^= d.state >> 7
	d.state ^= d.state << 17
	return lo + int64((d.state>>8)%uint64(hi-lo+1))
}

// pick returns one of the numbers.
func (d *dice) pick(l ...int64) int64 { return l[d.roll(0, int64(len(l))-1)] }

// often reports true in so many of a hundred cases.
func (d *dice) often(percent int64) bool { return d.roll(1, 100) <= percent }

// noise returns numbers of any size.
func (d *dice) noise(count int64) []int64 {
	var l []int64
	for range count {
		l = append(l, d.pick(0, -1, 1, far, low, d.roll(-300, 300), d.roll(-far, far-1)))
	}
	return l
}

// town returns a valid map that fits: lanes between five nodes on a line, which
// lead to each other, and some that cross them.
func (d *dice) town() api.Map {
	for {
		if m := d.streets(); roads.Fit(m) {
			return m
		}
	}
}

func (d *dice) streets() api.Map {
	var m api.Map
	nodes := []int64{0}
	for range 5 {
		nodes = append(nodes, nodes[len(nodes)-1]+8*d.pick(125, 250, d.roll(125, 500)))
	}
	kind := int(d.pick(1, 1, 1, 2, 3))
	count := d.roll(2, 9)
	ends := []int64{}
	for i := range count {
		from := i * 5 / count
		to := min(5, from+d.pick(1, 1, 2))
		l := lane(kind, d.way(nodes[from], nodes[to]))
		if d.often(20) {
			x := d.roll(0, nodes[5])
			from, to, l = -1, -1, lane(int(d.roll(1, 3)), of(x, -1000, x, d.roll(0, 2000)))
		}
		for k := range m.Lanes {
			if from >= 0 && ends[k] == from && len(m.Lanes[k].Next) < api.MaxNext && d.often(80) {
				m.Lanes[k].Next = append(m.Lanes[k].Next, int(i))
			}
		}
		m.Lanes, ends = append(m.Lanes, l), append(ends, to)
	}
	d.control(&m)
	return m
}

// way returns a curve from one coordinate to another one, straight or with a
// turn.
func (d *dice) way(from, to int64) api.Curve {
	k := (to - from) / 8
	if k < 200 || d.often(50) {
		return of(from, 0, to, 0)
	}
	return of(from, 0, from+4*k, 3*k*d.pick(-1, 1), to, 0)
}

// control puts zones into a map: one at each lane where others come together,
// and some more; and a signal for some of them.
func (d *dice) control(m *api.Map) {
	for lane := range m.Lanes {
		if l := before(*m, lane); len(l) > 1 {
			z := zone(0, part(lane, 0, d.roll(1, length(*m, lane)), 0))
			for i, b := range l {
				n := length(*m, b)
				z.Parts = append(z.Parts, part(b, d.pick(0, d.roll(0, n-1), n-d.roll(1, 300)), n, i+1))
			}
			d.put(m, z)
		}
	}
	for range d.roll(0, 4) {
		a, b := int(d.roll(0, int64(len(m.Lanes))-1)), int(d.roll(0, int64(len(m.Lanes))-1))
		if a != b {
			from, other := d.roll(0, length(*m, a)-1), d.roll(0, length(*m, b)-1)
			d.put(m, zone(0, part(a, from, d.roll(from+1, length(*m, a)), 1), part(b, other, d.roll(other+1, length(*m, b)), 2)))
		}
	}
}

// put puts a zone into a map, often with a signal of its own.
func (d *dice) put(m *api.Map, z api.Zone) {
	slices.SortFunc(z.Parts, func(a, b api.Part) int { return a.Lane - b.Lane })
	if len(m.Signals) < api.MaxSignals && d.often(70) {
		s := api.Signal{Offset: d.roll(0, 20)}
		for _, p := range z.Parts {
			s.Phases = append(s.Phases, phase(d.roll(1, 9), p.Lane), phase(d.roll(1, 5)))
		}
		s.Phases = s.Phases[:min(len(s.Phases), api.MaxPhases)]
		m.Signals = append(m.Signals, s)
		z.Signal = len(m.Signals)
	}
	m.Zones = append(m.Zones, z)
}

// routes returns all routes of a valid map.
func routes(m api.Map) [][]int {
	var l [][]int
	var follow func(route []int)
	follow = func(route []int) {
		if roads.CheckRoute(m, route) != api.OK {
			return
		}
		l = append(l, slices.Clone(route))
		for _, next := range m.Lanes[route[len(route)-1]].Next {
			follow(append(slices.Clone(route), next))
		}
	}
	for i := range m.Lanes {
		follow([]int{i})
	}
	return l
}

// route returns one of the routes of a valid map, often a long one.
func (d *dice) route(m api.Map) []int {
	l := routes(m)
	route := l[d.roll(0, int64(len(l))-1)]
	if other := l[d.roll(0, int64(len(l))-1)]; len(other) > len(route) {
		return other
	}
	return route
}

// ride is what somebody drives, and what is known there.
type ride struct {
	m       api.Map
	route   []int
	size    int64
	k       api.Know
	act     int64
	signals bool
}

// step makes the step of a ride.
func (r ride) step() (api.Know, []api.Sweep, api.Errno) {
	return track.Step(r.m, r.route, r.size, r.k, r.act, r.signals)
}

// ride returns something that is known on a map.
func (d *dice) ride(m api.Map) ride {
	r := ride{m: m, route: d.route(m), signals: d.often(70)}
	r.size = d.pick(300, 4000, d.roll(300, 3000), d.roll(300, 20000))
	r.act = d.pick(0, 30, -90, far, low, d.roll(-95, 35), d.roll(-310, 110))
	r.k = api.Know{Tick: d.pick(0, d.roll(0, 60), api.MaxTick-1), Ego: d.ego(r)}
	for lane := range m.Lanes {
		r.k.Blobs = append(r.k.Blobs, d.blobs(r, lane)...)
	}
	return r
}

// ego returns the bounds of a vehicle, often near the joints of its route.
func (d *dice) ego(r ride) api.Ego {
	end := total(r.m, r.route)
	places := []int64{0, end, end + r.size, d.roll(0, end), d.roll(0, end), d.roll(0, end+2*r.size)}
	for _, lane := range r.route {
		from := start(r.m, r.route, lane)
		places = append(places, from, from+r.size, from+d.roll(0, 500), from+r.size+d.roll(-2, 2))
	}
	s := max(0, d.pick(places...))
	v := d.pick(0, d.roll(0, 300), d.roll(0, 2000))
	wide := d.pick(0, 400, d.roll(0, 400), r.size, r.size+1, d.roll(0, 2*r.size))
	return ego(s, s+wide, v, d.pick(v, min(2000, v+6), d.roll(v, 2000)))
}

// blobs returns some blobs of a lane, often at its ends, at the vehicle, and at
// red lines.
func (d *dice) blobs(r ride, lane int) []api.Blob {
	n := length(r.m, lane)
	at := []int64{0, n, n, n - 1, max(0, n-d.roll(0, 2000))}
	for _, line := range roads.Red(r.m, lane, r.k.Tick) {
		at = append(at, line, line-1, line-d.roll(0, 200), line-d.roll(0, 2000))
	}
	if from := start(r.m, r.route, lane); from >= 0 {
		e := r.k.Ego
		at = append(at, e.SHi-r.size-from, e.SHi-r.size-from-1, e.SLo-from, e.SLo-from+1)
	}
	v := bounds(r.m, lane)
	var l []api.Blob
	for lo := d.pick(0, 0, d.roll(0, n)); lo <= n; lo += d.pick(2, d.roll(2, n)) {
		b := api.Blob{Lane: lane, Lo: lo, Hi: d.pick(at...)}
		if b.Hi < lo || b.Hi > n || d.often(30) {
			b.Hi = d.pick(lo, d.roll(lo, n), min(n, lo+d.roll(0, 50)))
		}
		b.VLo = d.pick(0, d.roll(0, v), v)
		b.VHi = d.pick(b.VLo, v, d.roll(b.VLo, v), min(v, b.VLo+d.roll(0, 100)))
		b.Hold = min(n, max(0, d.pick(0, 0, d.pick(at...), min(n, b.Hi+d.roll(0, 400)), d.roll(0, n))))
		l, lo = append(l, b), b.Hi
	}
	return l
}

// rides returns things that are known on many maps.
func rides(t *testing.T, seed uint64, count int) []ride {
	t.Helper()
	d := &dice{seed}
	maps := []api.Map{cross(), lights(), fork(), loop()}
	var l []ride
	for i := range count {
		m := d.town()
		if i%4 == 0 {
			m = maps[i/4%len(maps)]
		}
		r := d.ride(m)
		if e := track.Check(r.m, r.k); e != api.OK {
			t.Fatal(i, e, roads.Check(m), r.k)
		}
		l = append(l, r)
	}
	return l
}

// scan returns a scan, of somebody or of nobody, at the tick of a ride.
func (d *dice) scan(r ride) api.Scan {
	x := api.Scan{Stamp: r.k.Tick}
	for range d.roll(0, 8) {
		lane := int(d.roll(0, int64(len(r.m.Lanes))-1))
		n := length(r.m, lane)
		from := d.pick(0, d.roll(0, n), 1000*d.roll(0, n/1000))
		x.Seen = append(x.Seen, span(lane, from, d.pick(n, d.roll(from, n), min(n, from+1000))))
	}
	for _, b := range r.k.Blobs {
		if d.often(20) {
			x.Seen = append(x.Seen, span(b.Lane, d.pick(b.Lo, b.Lo+1, max(0, b.Lo-1)), d.pick(b.Hi, b.Hi+1, b.Hi-1)))
		}
	}
	for range d.roll(0, 12) {
		x.Points = append(x.Points, d.point(r.m))
	}
	return x
}

// point returns a point near a lane, or anywhere.
func (d *dice) point(m api.Map) api.Point {
	lane := int(d.roll(0, int64(len(m.Lanes))-1))
	c := m.Lanes[lane].Curve
	p := c.Pts[d.roll(0, int64(len(c.Pts))-1)]
	at := at(c, d.roll(0, length(m, lane)))
	p = api.Spot{X: d.pick(p.X, at.X, at.X), Y: d.pick(p.Y, at.Y, at.Y)}
	return api.Point{X: p.X + d.roll(-130, 130), Y: p.Y + d.roll(-130, 130), V: d.pick(-5, 0, 2005, d.roll(-9, 2009), d.roll(0, 300))}
}
