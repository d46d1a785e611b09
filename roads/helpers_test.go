package roads_test

import (
	"slices"

	"kerbstone/api"
	"kerbstone/curve"
)

// of makes a curve of pairs of coordinates.
func of(l ...int64) api.Curve {
	var c api.Curve
	for i := 0; i+1 < len(l); i += 2 {
		c.Pts = append(c.Pts, api.Spot{X: l[i], Y: l[i+1]})
	}
	return c
}

// row is a straight curve with n points.
func row(n int64) api.Curve {
	var c api.Curve
	for i := range n {
		c.Pts = append(c.Pts, api.Spot{X: 1000 * i, Y: 500000})
	}
	return c
}

// lane makes a road with the half width 1500 and the limit 1500.
func lane(c api.Curve, next ...int) api.Lane {
	return api.Lane{Kind: api.LaneRoad, Curve: c, Half: 1500, Limit: 1500, Next: next}
}

// zone makes a zone of its parts.
func zone(signal int, parts ...api.Part) api.Zone { return api.Zone{Signal: signal, Parts: parts} }

// part makes a part of a zone.
func part(lane int, from, to int64, rank int) api.Part {
	return api.Part{Lane: lane, From: from, To: to, Rank: rank}
}

// phase makes a phase of a signal.
func phase(ticks int64, green ...int) api.Phase { return api.Phase{Ticks: ticks, Green: green} }

// work makes a work: the lane, From, To, Begin, End and Limit.
func work(lane int, l ...int64) api.Work {
	return api.Work{Lane: lane, From: l[0], To: l[1], Begin: l[2], End: l[3], Limit: l[4]}
}

// cross is the map of the chapter's examples.
func cross() api.Map {
	return api.Map{
		Lanes: []api.Lane{lane(of(0, 0, 100000, 0)), lane(of(50000, -50000, 50000, 50000))},
		Zones: []api.Zone{zone(0, part(0, 48000, 52000, 1), part(1, 48000, 52000, 0))},
	}
}

// lights is that map with the signal of the examples, and two works.
func lights() api.Map {
	m := cross()
	m.Signals = []api.Signal{{Phases: []api.Phase{phase(10, 0), phase(5), phase(10, 1)}}}
	m.Zones[0].Signal = 1
	m.Works = []api.Work{work(0, 0, 20, 5, 9, 300), work(1, 100, 100000, 0, 1000, 2000)}
	return m
}

// fork is a map with five roads: 0 and 1 come together, and go on as 2, which
// forks into 3 and 4. The zone 0 joins 0, 1 and 2, and the zone 1 is crossed.
func fork() api.Map {
	return api.Map{
		Version: 7,
		Lanes: []api.Lane{
			lane(of(0, 0, 20000, 0), 2),
			lane(of(8000, 9000, 20000, 0), 2),
			lane(of(20000, 0, 50000, 0), 3, 4),
			lane(of(50000, 0, 90000, 0)),
			lane(of(50000, 0, 62000, 9000)),
			lane(of(70000, 20000, 70000, -20000)),
		},
		Zones: []api.Zone{
			zone(0, part(0, 15000, 20000, 2), part(1, 12000, 15000, 1), part(2, 0, 4000, 0)),
			zone(1, part(3, 18000, 22000, 0), part(5, 18000, 22000, 0)),
			zone(1, part(2, 1000, 2000, 0), part(5, 0, 22000, 0)),
		},
		Signals: []api.Signal{{Offset: 3, Phases: []api.Phase{phase(4, 3), phase(2), phase(5, 5)}}},
	}
}

// full is a valid map with as many rows as there may be, and with numbers as
// small and as great as they may be.
func full() api.Map {
	m := api.Map{Version: 5, Lanes: []api.Lane{
		lane(of(0, 0, 100000, 0), 3, 4, 5),
		lane(of(20000, -60000, 100000, 0), 3, 4),
		lane(of(0, -200000, 100000, -200000), 6),
		lane(of(100000, 0, 200000, 0), 7),
		lane(of(100000, 0, 140000, 30000, 180000, 0, 200000, 0), 7),
		lane(of(100000, 0, 160000, 80000)),
		lane(of(100000, -200000, 200000, -200000)),
		lane(of(200000, 0, 300000, 0)),
		lane(of(250000, -50000, 250000, 50000)),
		lane(of(260000, 50000, 260000, -50000)),
		lane(of(150000, 150000, 150000, 50000)),
		lane(row(16)),
	}}
	for i, kind := range map[int]int{2: api.LaneBike, 6: api.LaneBike, 8: api.LaneWalk, 9: api.LaneWalk} {
		m.Lanes[i].Kind, m.Lanes[i].Limit = kind, 1
	}
	for i, limit := range map[int]int64{0: 2000, 2: 1000, 3: 1, 8: 300} {
		m.Lanes[i].Limit = limit
	}
	m.Lanes[0].Half, m.Lanes[1].Half = 200, api.MaxHalf
	m.Signals = []api.Signal{
		{Offset: api.MaxTick, Phases: []api.Phase{phase(1), phase(10000, 0, 1, 2, 3, 4, 5, 6, 7, 8, 9, 10, 11), phase(2, 11), phase(3), phase(4, 0), phase(5)}},
		{Offset: 0, Phases: []api.Phase{phase(7, 1, 2)}},
		{Offset: 3, Phases: []api.Phase{phase(7, 1, 2), phase(2, 3)}},
		{Offset: 4, Phases: []api.Phase{phase(7, 1, 2), phase(2, 3)}},
	}
	m.Zones = []api.Zone{
		zone(4, part(0, 0, 1, 0), part(1, 99999, 100000, 100), part(3, 0, 100000, 3), part(4, 5, 120000, 4), part(10, 8, 9, 5), part(11, 0, 15000, 6)),
	}
	for i := 1; i < api.MaxZones; i++ {
		m.Zones = append(m.Zones, zone(i%5, part(7, int64(100*i), 60000, 1), part(8+i%2, 40000, 100000, 0)))
	}
	for i := range int64(api.MaxWorks) {
		m.Works = append(m.Works, work(int(i), 10*i, 20*i, i, 10*i+1, i))
	}
	m.Works[1] = work(8, 0, 100000, 0, api.MaxTick, 300)
	m.Works[2] = work(0, 100000, 100000, api.MaxTick-1, api.MaxTick, 2000)
	m.Works[3] = work(2, 0, 0, 0, 1, 1000)
	return m
}

// dice are numbers that look random, and are the same in each run.
type dice struct{ state uint64 }

// roll returns a number from lo to hi.
func (d *dice) roll(lo, hi int64) int64 {
	d.state ^= d.state << 13
	d.state ^= d.state >> 7
	d.state ^= d.state << 17
	return lo + int64((d.state>>8)%uint64(hi-lo+1))
}

// pick returns one of the numbers.
func (d *dice) pick(l ...int64) int64 { return l[d.roll(0, int64(len(l))-1)] }

// often reports true in so many of a hundred cases.
func (d *dice) often(percent int64) bool { return d.roll(1, 100) <= percent }

// some returns each number below n with a chance, ascending, but at most so
// many of them.
func (d *dice) some(n int, percent int64, most int) []int {
	var l []int
	for i := range n {
		if len(l) < most && d.often(percent) {
			l = append(l, i)
		}
	}
	return l
}

// way returns a curve from one node to another one: straight, or with a turn.
func (d *dice) way(from, to int64) api.Curve {
	x, k := 16000*from, 2000*(to-from)
	switch y := 3 * k * d.pick(-1, 1); d.roll(0, 3) {
	case 0:
		return of(x, 0, x+4*k, y, x+8*k, 0)
	case 1:
		return of(x, 0, x+2*k, y/2, x+6*k, y/2, x+8*k, 0)
	}
	return of(x, 0, x+8*k, 0)
}

// town returns a valid map: lanes between nodes, and others across them, with
// zones, signals and works, at random.
func (d *dice) town() api.Map {
	m := api.Map{Version: d.pick(0, 1, 77, api.MaxTick-1)}
	count := int(d.roll(1, api.MaxLanes))
	from, to := make([]int64, count), make([]int64, count)
	kinds := d.roll(1, 3)
	for i := range from {
		from[i] = d.roll(0, 3)
	}
	slices.Sort(from)
	for i := range count {
		to[i] = from[i] + d.pick(1, 1, 1, 2)
		kind := int(d.pick(1, 1, d.roll(1, kinds)))
		most := map[int]int64{1: 2000, 2: 1000, 3: 300}[kind]
		l := api.Lane{Kind: kind, Curve: d.way(from[i], to[i]), Half: d.roll(200, 4000), Limit: d.roll(1, most)}
		if d.often(10) {
			x := 1000 * d.roll(0, 80)
			l.Curve, to[i] = of(x, -8000, x, 12000), -1
			from[i] = -2
		}
		m.Lanes = append(m.Lanes, l)
	}
	for i, l := range m.Lanes {
		for k := i + 1; k < count; k++ {
			if from[k] == to[i] && m.Lanes[k].Kind == l.Kind && len(m.Lanes[i].Next) < api.MaxNext && d.often(80) {
				m.Lanes[i].Next = append(m.Lanes[i].Next, k)
			}
		}
	}
	d.control(&m)
	return m
}

// control puts signals, zones and works into a map.
func (d *dice) control(m *api.Map) {
	count := len(m.Lanes)
	for range d.roll(0, api.MaxSignals) {
		s := api.Signal{Offset: d.pick(0, d.roll(0, 50), d.roll(0, api.MaxTick))}
		for range d.roll(1, api.MaxPhases) {
			s.Phases = append(s.Phases, api.Phase{Ticks: d.pick(1, d.roll(1, 9), d.roll(1, 40)), Green: d.some(count, d.pick(10, 20, 50), count)})
		}
		m.Signals = append(m.Signals, s)
	}
	for range d.pick(0, 1, 2, d.roll(0, api.MaxZones)) {
		lanes := d.some(count, d.pick(25, 50), api.MaxParts)
		if d.often(50) {
			lanes = d.meeting(*m)
		}
		if len(lanes) < 2 {
			continue
		}
		z := api.Zone{Signal: int(d.pick(0, d.roll(0, int64(len(m.Signals)))))}
		for _, l := range lanes {
			p := api.Part{Lane: l, To: curve.Length(m.Lanes[l].Curve), Rank: int(d.roll(0, 9))}
			if d.often(30) && len(before(*m, l)) == 0 {
				p.From = d.roll(0, 9000)
			}
			if d.often(15) {
				p.From = d.roll(0, 9000)
			}
			if d.often(20) {
				p.To -= d.roll(0, 5000)
			}
			z.Parts = append(z.Parts, p)
		}
		m.Zones = append(m.Zones, z)
	}
	for range d.roll(0, api.MaxWorks) {
		w := api.Work{Lane: int(d.roll(0, int64(count)-1)), Begin: d.roll(0, 20)}
		w.From = d.roll(0, 9000)
		w.To = w.From + d.pick(0, d.roll(0, 7000))
		w.End = w.Begin + d.roll(1, 20)
		w.Limit = d.pick(0, d.roll(0, 300))
		m.Works = append(m.Works, w)
	}
}

// meeting returns a lane with its predecessors.
func (d *dice) meeting(m api.Map) []int {
	i := int(d.roll(0, int64(len(m.Lanes))-1))
	l := append(before(m, i), i)
	if len(l) > api.MaxParts {
		return nil
	}
	return l
}

// towns returns valid maps, from small to great ones.
func towns(seed uint64, count int) []api.Map {
	d := &dice{seed}
	list := []api.Map{cross(), lights(), fork(), full(), chain(), ring(), star()}
	for range count {
		list = append(list, d.town())
	}
	return list
}
