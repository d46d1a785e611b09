package roads_test

import (
	"slices"
	"testing"

	"kerbstone/api"
	"kerbstone/curve"
	"kerbstone/roads"
)

// clash makes a contradiction.
func clash(kind, zone, a, b int) api.Clash { return api.Clash{Kind: kind, Zone: zone, A: a, B: b} }

// example is a map, changed, and its contradictions.
type example struct {
	m      api.Map
	change func(m *api.Map)
	want   []api.Clash
}

// compare compares the contradictions with what is wanted.
func compare(t *testing.T, l []example) {
	t.Helper()
	for i, x := range l {
		x.change(&x.m)
		if e := roads.Check(x.m); e != api.OK {
			t.Error(i, e)
		}
		if got := roads.Clashes(x.m); !slices.Equal(got, x.want) {
			t.Error(i, got)
		}
		fits := !slices.ContainsFunc(x.want, func(c api.Clash) bool { return c.Kind < api.ClashOverlap })
		if roads.Fit(x.m) != fits {
			t.Error(i, "Fit", !fits)
		}
	}
}

func TestClashesExamples(t *testing.T) {
	compare(t, []example{
		{cross(), func(m *api.Map) {}, nil},
		{cross(), func(m *api.Map) { m.Zones[0].Parts[0].Rank = 0 }, []api.Clash{clash(3, 0, 0, 1)}},
		{cross(), func(m *api.Map) { m.Zones = nil }, []api.Clash{clash(5, -1, 0, 1)}},
		{lights(), func(m *api.Map) {}, nil},
		{fork(), func(m *api.Map) {}, nil},
	})
}

// join is the fork without zones but that which joins the lanes 0, 1 and 2.
func join() api.Map {
	m := fork()
	m.Lanes, m.Zones, m.Signals = m.Lanes[:5], m.Zones[:1], nil
	return m
}

func TestClashMerge(t *testing.T) {
	merge, chain := clash(1, -1, 2, -1), clash(2, 0, 2, -1)
	parts := func(l ...api.Part) func(m *api.Map) {
		return func(m *api.Map) { m.Zones[0].Parts = l }
	}
	compare(t, []example{
		{join(), func(m *api.Map) {}, nil},
		{join(), func(m *api.Map) { m.Zones = nil }, []api.Clash{merge}},
		{join(), func(m *api.Map) { m.Zones[0].Parts[2].To = 1 }, nil},
		{join(), func(m *api.Map) { m.Zones[0].Parts[2].From = 1 }, []api.Clash{merge, chain}},
		{join(), func(m *api.Map) { m.Zones[0].Parts[0].To-- }, []api.Clash{merge, chain}},
		{join(), func(m *api.Map) { m.Zones[0].Parts[1].To-- }, []api.Clash{merge, chain}},
		{join(), func(m *api.Map) { m.Zones[0].Parts[0].From, m.Zones[0].Parts[1].From = 0, 14999 }, nil},
		{join(), parts(part(0, 0, 20000, 1), part(1, 0, 15000, 2)), []api.Clash{merge}},
		{join(), parts(part(0, 0, 20000, 1), part(2, 0, 1000, 2)), []api.Clash{merge, chain}},
		{join(), parts(part(0, 0, 20000, 1), part(1, 0, 15000, 2), part(3, 0, 1000, 2)), []api.Clash{merge, clash(2, 0, 3, -1)}},
		// The parts are not in one zone, or in the second one.
		{join(), func(m *api.Map) {
			m.Zones = []api.Zone{zone(0, part(0, 0, 20000, 1), part(2, 0, 1, 0)), zone(0, part(1, 0, 15000, 1), part(2, 0, 1, 0))}
		}, []api.Clash{merge, chain, clash(2, 1, 2, -1)}},
		{join(), func(m *api.Map) {
			m.Zones = []api.Zone{zone(0, part(0, 0, 1, 1), part(1, 0, 1, 0)), m.Zones[0]}
		}, nil},
		// One predecessor alone is not joined by anything.
		{join(), func(m *api.Map) { m.Lanes[1].Next, m.Zones = nil, nil }, []api.Clash{clash(5, -1, 0, 1), clash(5, -1, 1, 2)}},
	})
}

// ring is a map in which a predecessor of the lane 2 leads to the other one:
// the lane 1 goes in a circle, from the end of the lane 0 to it.
func ring() api.Map {
	circle := []int64{4, 3, 3, 4, 0, 5, -3, 4, -4, 3, -5, 0, -4, -3, -3, -4, 0, -5, 3, -4, 4, -3, 5, 0}
	points := []int64{50000, 0}
	for i, n := range circle {
		points = append(points, points[i]+1000*n)
	}
	return api.Map{
		Lanes: []api.Lane{lane(of(0, 0, 50000, 0), 1, 2), lane(of(points...), 2), lane(of(50000, 0, 90000, 0))},
		Zones: []api.Zone{zone(0, part(0, 0, 50000, 0), part(1, 0, 60000, 1), part(2, 0, 100, 2))},
	}
}

func TestClashMergeOfEntries(t *testing.T) {
	m := ring()
	if n := curve.Length(m.Lanes[1].Curve); n != 60000 {
		t.Fatal(n)
	}
	compare(t, []example{
		{m, func(m *api.Map) {}, []api.Clash{clash(1, -1, 2, -1)}},
		{m, func(m *api.Map) { m.Lanes[0].Next = []int{1} }, nil},
		{m, func(m *api.Map) { m.Lanes[0].Next, m.Zones = []int{2}, m.Zones[:1] }, nil},
	})
}

func TestClashChain(t *testing.T) {
	parts := func(l ...api.Part) func(m *api.Map) {
		return func(m *api.Map) { m.Zones = append(m.Zones, zone(0, l...)) }
	}
	compare(t, []example{
		{join(), parts(part(2, 0, 30000, 0), part(3, 0, 5, 0)), nil},
		{join(), parts(part(2, 7, 30000, 0), part(3, 0, 5, 0), part(4, 0, 12000, 0)), nil},
		{join(), parts(part(2, 0, 29999, 0), part(3, 0, 5, 0)), []api.Clash{clash(2, 1, 3, -1)}},
		{join(), parts(part(2, 0, 30000, 0), part(3, 1, 5, 0)), []api.Clash{clash(2, 1, 3, -1)}},
		{join(), parts(part(2, 0, 30000, 0), part(3, 1, 5, 0), part(4, 1, 5, 0)), []api.Clash{clash(2, 1, 3, -1), clash(2, 1, 4, -1)}},
		// The lane 0 leads to 3, but is not before it.
		{join(), parts(part(0, 0, 20000, 0), part(3, 0, 5, 0)), []api.Clash{clash(2, 1, 3, -1)}},
		{join(), parts(part(0, 0, 20000, 0), part(2, 0, 30000, 0), part(3, 0, 5, 0)), []api.Clash{clash(2, 1, 2, -1)}},
		{join(), parts(part(0, 0, 20000, 0), part(1, 5, 15000, 1), part(2, 0, 30000, 0), part(3, 0, 5, 0)), nil},
		{join(), parts(part(0, 0, 20000, 0), part(1, 5, 14999, 1), part(2, 0, 30000, 0), part(3, 0, 5, 0)), []api.Clash{clash(2, 1, 2, -1)}},
		// The zone comes before the lane.
		{join(), func(m *api.Map) {
			m.Zones = append(m.Zones, zone(0, part(2, 0, 1, 0), part(4, 0, 1, 0)), zone(0, part(2, 0, 1, 0), part(3, 0, 1, 0)))
		}, []api.Clash{clash(2, 1, 4, -1), clash(2, 2, 3, -1)}},
		{ring(), func(m *api.Map) { m.Lanes[0].Next = []int{1}; m.Zones[0].Parts[1].To = 59999 }, []api.Clash{clash(2, 0, 2, -1)}},
	})
}

// star has six roads that come together in its zone 0 alone, and a signal with
// which none of them is green.
func star() api.Map {
	m := api.Map{Signals: []api.Signal{{Phases: []api.Phase{phase(1)}}}}
	var z api.Zone
	for i := range int64(6) {
		m.Lanes = append(m.Lanes, lane(of(-12000+4000*i, -50000, -12000+4000*i, 50000)))
		z.Parts = append(z.Parts, part(int(i), 0, 100000, int(i)))
	}
	m.Zones = []api.Zone{z, z, z}
	for i := range m.Zones {
		m.Zones[i].Parts = slices.Clone(z.Parts)
	}
	return m
}

func TestClashRank(t *testing.T) {
	ranks := func(zone int, l ...int) func(m *api.Map) {
		return func(m *api.Map) {
			for i, r := range l {
				m.Zones[zone].Parts[i].Rank = r
			}
		}
	}
	compare(t, []example{
		{star(), func(m *api.Map) {}, nil},
		{star(), ranks(0, 5, 4, 3, 2, 1, 0), nil},
		{star(), ranks(0, 100, 100), []api.Clash{clash(3, 0, 0, 1)}},
		{star(), ranks(0, 0, 1, 0, 3, 1, 0), []api.Clash{clash(3, 0, 0, 2), clash(3, 0, 0, 5), clash(3, 0, 1, 4), clash(3, 0, 2, 5)}},
		{star(), ranks(2, 9, 8, 7, 6, 6), []api.Clash{clash(3, 2, 3, 4)}},
		{star(), func(m *api.Map) {
			ranks(2, 7, 7)(m)
			ranks(1, 1, 2, 3, 4, 9, 9)(m)
		}, []api.Clash{clash(3, 1, 4, 5), clash(3, 2, 0, 1)}},
		{star(), func(m *api.Map) { ranks(0, 3, 3, 3)(m); m.Zones[0].Signal = 1 }, nil},
		// Only the ranks of entries matter.
		{join(), func(m *api.Map) { m.Zones[0].Parts[2].Rank = 2 }, nil},
		{join(), func(m *api.Map) { m.Zones[0].Parts[0].Rank = 1 }, []api.Clash{clash(3, 0, 0, 1)}},
		{join(), func(m *api.Map) {
			m.Zones = append(m.Zones, zone(0, part(2, 0, 30000, 0), part(3, 0, 5, 4), part(4, 0, 5, 4)))
		}, nil},
		{join(), func(m *api.Map) { m.Zones = append(m.Zones, zone(0, part(3, 0, 5, 4), part(4, 0, 5, 4))) }, []api.Clash{clash(3, 1, 3, 4)}},
	})
}

func TestClashGreen(t *testing.T) {
	green := func(l ...[]int) func(m *api.Map) {
		return func(m *api.Map) {
			m.Zones[1].Signal = 1
			m.Signals[0].Phases = nil
			for i, lanes := range l {
				m.Signals[0].Phases = append(m.Signals[0].Phases, phase(int64(i+1), lanes...))
			}
		}
	}
	compare(t, []example{
		{star(), green([]int{0}, []int{1}, []int{2}, []int{3}, []int{4}, []int{5}), nil},
		{star(), green([]int{0, 3}), []api.Clash{clash(4, 1, 0, 3)}},
		{star(), green(nil, []int{0}, []int{2, 4}, []int{0}), []api.Clash{clash(4, 1, 2, 4)}},
		{star(), green([]int{2, 4}, nil, []int{0, 2, 4}), []api.Clash{clash(4, 1, 0, 2), clash(4, 1, 0, 4), clash(4, 1, 2, 4)}},
		{star(), green([]int{4, 5}, []int{4, 5}, []int{0, 1}, []int{0, 1}), []api.Clash{clash(4, 1, 0, 1), clash(4, 1, 4, 5)}},
		// With a signal the ranks do not matter, without one the phases.
		{star(), func(m *api.Map) {
			green([]int{0, 1})(m)
			m.Zones[1].Signal = 0
		}, nil},
		{star(), func(m *api.Map) {
			green([]int{0, 1})(m)
			m.Zones[0].Signal = 1
			m.Zones[1].Parts = m.Zones[1].Parts[1:]
			m.Zones[2].Signal = 1
			m.Zones[2].Parts[0].Rank = 1
		}, []api.Clash{clash(4, 0, 0, 1), clash(4, 2, 0, 1)}},
		// The second signal is that of the zone.
		{star(), func(m *api.Map) {
			m.Signals = []api.Signal{{Phases: []api.Phase{phase(3, 0, 1)}}, {Phases: []api.Phase{phase(5, 2, 3)}}}
			m.Zones[0].Signal = 2
		}, []api.Clash{clash(4, 0, 2, 3)}},
		// Only entries matter.
		{join(), func(m *api.Map) {
			m.Signals = []api.Signal{{Phases: []api.Phase{phase(5, 0, 2), phase(5, 1, 2, 3)}}}
			m.Zones[0].Signal = 1
		}, nil},
	})
}

func TestClashOverlap(t *testing.T) {
	over := []api.Clash{clash(5, -1, 0, 1)}
	parts := func(from, to, other, till int64) func(m *api.Map) {
		return func(m *api.Map) {
			m.Zones[0].Parts[0].From, m.Zones[0].Parts[0].To = from, to
			m.Zones[0].Parts[1].From, m.Zones[0].Parts[1].To = other, till
		}
	}
	compare(t, []example{
		// The lanes of the cross have common points from 48499 to 51501.
		{cross(), parts(48499, 51501, 48499, 51501), nil},
		{cross(), parts(48500, 51501, 48499, 51501), over}, {cross(), parts(48499, 51500, 48499, 51501), over},
		{cross(), parts(48499, 51501, 48500, 51501), over}, {cross(), parts(48499, 51501, 48499, 51500), over},
		{cross(), parts(0, 100000, 0, 100000), nil}, {cross(), parts(0, 10, 0, 10), over},
		// No zone has both parts.
		{cross(), func(m *api.Map) {
			m.Lanes = append(m.Lanes, lane(of(0, 90000, 50000, 90000)))
			m.Zones = []api.Zone{zone(0, part(0, 0, 100000, 0), part(2, 0, 5, 1)), zone(0, part(1, 0, 100000, 0), part(2, 0, 5, 1))}
		}, over},
		{cross(), func(m *api.Map) {
			m.Zones = append([]api.Zone{zone(0, part(0, 0, 5, 0), part(1, 0, 5, 1))}, m.Zones...)
		}, nil},
		// Each of two places needs a zone, and no pair is named twice.
		{cross(), func(m *api.Map) {
			m.Lanes[1].Curve = of(10000, 5000, 22000, 0, 34000, 0, 46000, 5000, 58000, 5000, 70000, 0)
			m.Zones[0].Parts[0].From, m.Zones[0].Parts[0].To, m.Zones[0].Parts[1].From, m.Zones[0].Parts[1].To = 10000, 50000, 0, 38000
		}, over},
		{cross(), func(m *api.Map) {
			m.Lanes[1].Curve = of(10000, 5000, 22000, 0, 34000, 0, 46000, 5000, 58000, 5000, 70000, 0)
			m.Zones = []api.Zone{zone(0, part(0, 10000, 50000, 1), part(1, 0, 38000, 0)), zone(0, part(0, 50000, 90000, 1), part(1, 50000, 63000, 0))}
		}, nil},
		// Lanes that come together, or apart, or follow each other, overlap.
		{join(), func(m *api.Map) { m.Lanes[3].Half, m.Lanes[4].Half = 4000, 4000 }, nil},
		{join(), func(m *api.Map) { m.Lanes[2].Next = []int{3} }, []api.Clash{clash(5, -1, 2, 4), clash(5, -1, 3, 4)}},
		{join(), func(m *api.Map) { m.Lanes[2].Next = nil }, []api.Clash{clash(5, -1, 2, 3), clash(5, -1, 2, 4), clash(5, -1, 3, 4)}},
		{join(), func(m *api.Map) { m.Lanes[0].Next, m.Lanes[1].Next, m.Zones[0].Parts[1].From = nil, nil, 0 }, nil},
		{join(), func(m *api.Map) { m.Lanes[0].Next, m.Lanes[1].Next, m.Zones = nil, nil, nil }, []api.Clash{clash(5, -1, 0, 1), clash(5, -1, 0, 2), clash(5, -1, 1, 2)}},
		// The half widths count.
		{cross(), func(m *api.Map) { m.Lanes[1].Curve = of(0, 2500, 100000, 2500) }, over},
		{cross(), func(m *api.Map) { m.Lanes[1].Curve, m.Lanes[1].Half = of(0, 2500, 100000, 2500), 1000 }, over},
		{cross(), func(m *api.Map) { m.Lanes[1].Curve, m.Lanes[1].Half = of(0, 2500, 100000, 2500), 999 }, nil},
		{cross(), func(m *api.Map) { m.Lanes[1].Curve, m.Lanes[0].Half = of(0, 2500, 100000, 2500), 999 }, nil},
	})
}

// P3.1: all kinds, in their order.
func TestClashesPlain(t *testing.T) {
	var kinds [6]int
	fit := 0
	for i, m := range towns(21, 4000) {
		want := contradictions(m)
		if got := roads.Clashes(m); !slices.Equal(got, want) {
			t.Fatal(i, got, want)
		}
		fits := !slices.ContainsFunc(want, func(c api.Clash) bool { return c.Kind < 5 })
		if roads.Fit(m) != fits {
			t.Error(i, "Fit", !fits)
		}
		for _, c := range want {
			kinds[c.Kind]++
		}
		if fits && len(m.Zones) > 0 {
			fit++
		}
	}
	if slices.Min(kinds[1:]) < 300 || fit < 300 {
		t.Error("too few contradictions to show anything:", kinds, fit)
	}
}
