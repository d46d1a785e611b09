package roads_test

import (
	"slices"
	"testing"

	"kerbstone/api"
	"kerbstone/roads"
)

// edit makes an edit without a row.
func edit(kind, table, at int) api.Edit { return api.Edit{Kind: kind, Table: table, At: at} }

// withLane, withZone, withSignal and withWork make edits with a row.
func withLane(kind, at int, l api.Lane) api.Edit {
	return api.Edit{Kind: kind, Table: api.TableLane, At: at, Lane: l}
}

func withZone(kind, at int, z api.Zone) api.Edit {
	return api.Edit{Kind: kind, Table: api.TableZone, At: at, Zone: z}
}

func withSignal(kind, at int, s api.Signal) api.Edit {
	return api.Edit{Kind: kind, Table: api.TableSignal, At: at, Signal: s}
}

func withWork(kind, at int, w api.Work) api.Edit {
	return api.Edit{Kind: kind, Table: api.TableWork, At: at, Work: w}
}

// P3.5
func TestApplyExamples(t *testing.T) {
	road, green := lane(of(0, 90000, 100000, 90000)), api.Signal{Phases: []api.Phase{phase(5, 0)}}
	both, closed := zone(0, part(0, 0, 5, 0), part(1, 0, 5, 1)), work(1, 5, 6, 7, 8, 9)
	for i, x := range []struct {
		edits  []api.Edit
		change func(m *api.Map)
	}{
		{nil, func(m *api.Map) {}},
		{[]api.Edit{withLane(1, 2, road)}, func(m *api.Map) { m.Lanes = append(m.Lanes, road) }},
		{[]api.Edit{withZone(1, 1, both)}, func(m *api.Map) { m.Zones = append(m.Zones, both) }},
		{[]api.Edit{withSignal(1, 1, green)}, func(m *api.Map) { m.Signals = append(m.Signals, green) }},
		{[]api.Edit{withWork(1, 2, closed)}, func(m *api.Map) { m.Works = append(m.Works, closed) }},
		{[]api.Edit{withLane(3, 1, road)}, func(m *api.Map) { m.Lanes[1] = road }},
		{[]api.Edit{withZone(3, 0, both)}, func(m *api.Map) { m.Zones[0] = both }},
		{[]api.Edit{withSignal(3, 0, green)}, func(m *api.Map) { m.Signals[0] = green }},
		{[]api.Edit{withWork(3, 0, closed)}, func(m *api.Map) { m.Works[0] = closed }},
		{[]api.Edit{withWork(3, 1, closed)}, func(m *api.Map) { m.Works[1] = closed }},
		{[]api.Edit{edit(2, 2, 0)}, func(m *api.Map) { m.Zones = nil }},
		{[]api.Edit{edit(2, 2, 0), edit(2, 3, 0)}, func(m *api.Map) { m.Zones, m.Signals = nil, nil }},
		{[]api.Edit{edit(2, 4, 1)}, func(m *api.Map) { m.Works = m.Works[:1] }},
		{[]api.Edit{edit(2, 4, 1), edit(2, 4, 0)}, func(m *api.Map) { m.Works = nil }},
		// What is not valid on the way does not matter.
		{[]api.Edit{edit(2, 1, 1), withLane(1, 1, lane(of(50000, -50000, 50000, 50000)))}, func(m *api.Map) {}},
		{[]api.Edit{edit(2, 1, 1), edit(2, 1, 0), withLane(1, 0, cross().Lanes[0]), withLane(1, 1, cross().Lanes[1])}, func(m *api.Map) {}},
		{[]api.Edit{withLane(3, 0, api.Lane{}), withLane(3, 0, cross().Lanes[0])}, func(m *api.Map) {}},
		{[]api.Edit{edit(2, 3, 0), edit(2, 2, 0), withSignal(1, 0, green), withZone(1, 0, both), withZone(1, 1, both), edit(2, 2, 1)}, func(m *api.Map) { m.Signals[0], m.Zones[0] = green, both }},
		// The other rows of an edit do not matter.
		{[]api.Edit{{Kind: 1, Table: 4, At: 2, Work: closed, Lane: road, Zone: zone(9), Signal: api.Signal{Offset: -1}}}, func(m *api.Map) { m.Works = append(m.Works, closed) }},
		{[]api.Edit{{Kind: 2, Table: 4, At: 1, Work: closed, Lane: road, Zone: both, Signal: green}}, func(m *api.Map) { m.Works = m.Works[:1] }},
	} {
		m := lights()
		m.Version = 41
		want := roads.Copy(m)
		x.change(&want)
		want.Version = 42
		got, e := roads.Apply(m, api.Patch{Base: 41, Edits: x.edits})
		if e != api.OK || !roads.Same(got, want) {
			t.Error(i, e, got)
		}
	}
}

// P3.5
func TestApplyErrors(t *testing.T) {
	good := withWork(1, 2, work(1, 5, 6, 7, 8, 9))
	for i, x := range []struct {
		base    int64
		version int64
		edits   []api.Edit
		want    api.Errno
	}{
		{1, 0, nil, api.ErrVersion}, {0, 1, nil, api.ErrVersion}, {-1, 0, nil, api.ErrVersion}, {low, 0, nil, api.ErrVersion}, {5, 5, nil, api.OK}, {6, 5, []api.Edit{{}}, api.ErrVersion}, {4, 5, []api.Edit{edit(3, 4, 9)}, api.ErrVersion},
		{0, 0, []api.Edit{{}}, api.ErrKind}, {0, 0, []api.Edit{edit(0, 4, 1)}, api.ErrKind}, {0, 0, []api.Edit{edit(4, 4, 1)}, api.ErrKind}, {0, 0, []api.Edit{edit(-1, 4, 1)}, api.ErrKind}, {0, 0, []api.Edit{edit(far, 4, 1)}, api.ErrKind},
		{0, 0, []api.Edit{edit(2, 0, 1)}, api.ErrKind}, {0, 0, []api.Edit{edit(2, 5, 1)}, api.ErrKind}, {0, 0, []api.Edit{edit(2, -1, 1)}, api.ErrKind}, {0, 0, []api.Edit{edit(2, 5, 99)}, api.ErrKind}, {0, 0, []api.Edit{edit(0, 4, 99)}, api.ErrKind}, {0, 0, []api.Edit{edit(1, 0, -1)}, api.ErrKind}, {0, 0, []api.Edit{edit(3, low, 0)}, api.ErrKind},
		// EditAdd has the number of rows.
		{0, 0, []api.Edit{withWork(1, 1, good.Work)}, api.ErrRange}, {0, 0, []api.Edit{withWork(1, 3, good.Work)}, api.ErrRange}, {0, 0, []api.Edit{withWork(1, 0, good.Work)}, api.ErrRange}, {0, 0, []api.Edit{withWork(1, -1, good.Work)}, api.ErrRange}, {0, 0, []api.Edit{good}, api.OK}, {0, 0, []api.Edit{good, good}, api.ErrRange},
		// EditDrop has that of the last row.
		{0, 0, []api.Edit{edit(2, 4, 2)}, api.ErrRange}, {0, 0, []api.Edit{edit(2, 4, 0)}, api.ErrRange}, {0, 0, []api.Edit{edit(2, 4, -1)}, api.ErrRange}, {0, 0, []api.Edit{edit(2, 4, 1), edit(2, 4, 0)}, api.OK}, {0, 0, []api.Edit{edit(2, 4, 1), edit(2, 4, 1)}, api.ErrRange},
		{0, 0, []api.Edit{edit(2, 4, 1), edit(2, 4, 0), edit(2, 4, -1)}, api.ErrRange}, {0, 0, []api.Edit{edit(2, 4, 1), edit(2, 4, 0), edit(2, 4, 0)}, api.ErrRange}, {0, 0, []api.Edit{edit(2, 1, 1), edit(2, 1, 0), edit(2, 1, -1)}, api.ErrRange},
		// EditChange has that of a row.
		{0, 0, []api.Edit{withWork(3, 2, good.Work)}, api.ErrRange}, {0, 0, []api.Edit{withWork(3, -1, good.Work)}, api.ErrRange}, {0, 0, []api.Edit{withWork(3, far, good.Work)}, api.ErrRange}, {0, 0, []api.Edit{withWork(3, 0, good.Work)}, api.OK}, {0, 0, []api.Edit{withWork(3, 1, good.Work)}, api.OK}, {0, 0, []api.Edit{good, withWork(3, 2, good.Work)}, api.OK},
		{0, 0, []api.Edit{edit(2, 2, 0), withZone(3, 0, lights().Zones[0])}, api.ErrRange}, {0, 0, []api.Edit{edit(1, 1, 1)}, api.ErrRange}, {0, 0, []api.Edit{edit(1, 2, 2)}, api.ErrRange}, {0, 0, []api.Edit{edit(1, 3, 0)}, api.ErrRange}, {0, 0, []api.Edit{edit(3, 3, 1)}, api.ErrRange}, {0, 0, []api.Edit{edit(3, 1, 2)}, api.ErrRange},
		// Edit by edit.
		{0, 0, []api.Edit{edit(3, 4, 9), {}}, api.ErrRange}, {0, 0, []api.Edit{{}, edit(3, 4, 9)}, api.ErrKind}, {0, 0, []api.Edit{good, {}}, api.ErrKind}, {0, 0, []api.Edit{edit(3, 4, 0), {}}, api.ErrKind},
		// Only then the last version, and what is wrong with the result.
		{api.MaxTick, api.MaxTick, nil, api.ErrRange}, {api.MaxTick, api.MaxTick, []api.Edit{{}}, api.ErrKind}, {api.MaxTick, api.MaxTick, []api.Edit{edit(3, 1, 0)}, api.ErrRange}, {api.MaxTick, 5, nil, api.ErrVersion}, {api.MaxTick - 1, api.MaxTick - 1, nil, api.OK},
		{0, 0, []api.Edit{edit(3, 1, 0)}, api.ErrKind}, {0, 0, []api.Edit{edit(3, 2, 0)}, api.ErrShort}, {0, 0, []api.Edit{edit(1, 3, 1)}, api.ErrShort}, {0, 0, []api.Edit{withWork(3, 0, work(2, 0, 0, 0, 1, 5))}, api.ErrMissing}, {0, 0, []api.Edit{edit(2, 1, 1), edit(2, 1, 0)}, api.ErrShort},
		{0, 0, []api.Edit{edit(2, 1, 1)}, api.ErrOrder}, {0, 0, []api.Edit{edit(2, 3, 0)}, api.ErrRange}, {0, 0, []api.Edit{withLane(3, 0, lane(of(0, 0, 1000, 1000)))}, api.ErrForm}, {0, 0, []api.Edit{withLane(3, 0, lane(of(0, 0, 1000, 0), 1))}, api.ErrForm},
	} {
		m := lights()
		m.Version = x.version
		got, e := roads.Apply(m, api.Patch{Base: x.base, Edits: x.edits})
		if e != x.want || e != api.OK && !roads.Same(got, api.Map{}) {
			t.Error(i, e, x.want)
		}
	}
}

// P3.5: there may be too many rows on the way, but not in the end.
func TestApplyTooMany(t *testing.T) {
	m := full()
	more := []api.Edit{withLane(1, 12, lane(row(2))), withZone(1, 12, m.Zones[1]), withSignal(1, 4, m.Signals[1]), withWork(1, 8, m.Works[1])}
	less := []api.Edit{edit(2, 1, 12), edit(2, 2, 12), edit(2, 3, 4), edit(2, 4, 8)}
	for i := range more {
		if _, e := roads.Apply(m, api.Patch{Base: 5, Edits: more[i : i+1]}); e != api.ErrFull {
			t.Error(i, e)
		}
	}
	to, e := roads.Apply(m, api.Patch{Base: 5, Edits: append(more, less...)})
	m.Version = 6
	if e != api.OK || !roads.Same(to, m) {
		t.Error(e)
	}
}

// sameEdits reports whether two lists of edits are equal.
func sameEdits(a, b []api.Edit) bool {
	return slices.EqualFunc(a, b, func(x, y api.Edit) bool {
		one := func(e api.Edit) api.Map {
			return api.Map{Lanes: []api.Lane{e.Lane}, Zones: []api.Zone{e.Zone}, Signals: []api.Signal{e.Signal}, Works: []api.Work{e.Work}}
		}
		return x.Kind == y.Kind && x.Table == y.Table && x.At == y.At && roads.Same(one(x), one(y))
	})
}

// P3.6
func TestDiffExamples(t *testing.T) {
	road := lane(of(0, 90000, 50000, 90000))
	for i, x := range []struct {
		a, b api.Map
		want []api.Edit
	}{
		{cross(), cross(), nil}, {full(), full(), nil},
		{cross(), lights(), []api.Edit{withZone(3, 0, lights().Zones[0]), withSignal(1, 0, lights().Signals[0]), withWork(1, 0, lights().Works[0]), withWork(1, 1, lights().Works[1])}},
		{lights(), cross(), []api.Edit{withZone(3, 0, cross().Zones[0]), edit(2, 3, 0), edit(2, 4, 1), edit(2, 4, 0)}},
		{cross(), api.Map{Lanes: []api.Lane{road}}, []api.Edit{withLane(3, 0, road), edit(2, 1, 1), edit(2, 2, 0)}},
		{api.Map{Lanes: []api.Lane{road}}, cross(), []api.Edit{withLane(3, 0, cross().Lanes[0]), withLane(1, 1, cross().Lanes[1]), withZone(1, 0, cross().Zones[0])}},
		{cross(), api.Map{Version: 7, Lanes: cross().Lanes, Zones: cross().Zones, Works: []api.Work{}}, nil},
	} {
		x.a.Version = 3
		p, e := roads.Diff(x.a, x.b)
		if e != api.OK || p.Base != 3 || !sameEdits(p.Edits, x.want) {
			t.Error(i, e, p)
		}
	}
}

// P3.6: each field of a row makes a difference.
func TestDiffOfEachField(t *testing.T) {
	for i, x := range []struct {
		table, at int
		change    func(m *api.Map)
	}{
		{1, 10, func(m *api.Map) { m.Lanes[10].Kind = api.LaneBike; m.Lanes[10].Limit = 1000 }}, {1, 10, func(m *api.Map) { m.Lanes[10].Limit-- }}, {1, 0, func(m *api.Map) { m.Lanes[0].Half++ }},
		{1, 5, func(m *api.Map) { m.Lanes[5].Curve = of(100000, 0, 180000, 60000) }}, {1, 0, func(m *api.Map) { m.Lanes[0].Next = []int{3, 4} }}, {1, 0, func(m *api.Map) { m.Lanes[0].Next = nil }}, {1, 11, func(m *api.Map) { m.Lanes[11].Curve = of(0, 500000, 15000, 500000) }},
		{2, 3, func(m *api.Map) { m.Zones[3].Signal-- }}, {2, 11, func(m *api.Map) { m.Zones[11].Parts[1].From++ }}, {2, 0, func(m *api.Map) { m.Zones[0].Parts[5].To-- }}, {2, 0, func(m *api.Map) { m.Zones[0].Parts[2].Rank++ }}, {2, 0, func(m *api.Map) { m.Zones[0].Parts[1].Lane = 2 }}, {2, 0, func(m *api.Map) { m.Zones[0].Parts = m.Zones[0].Parts[:5] }},
		{3, 2, func(m *api.Map) { m.Signals[2].Offset++ }}, {3, 3, func(m *api.Map) { m.Signals[3].Phases[1].Ticks++ }}, {3, 0, func(m *api.Map) { m.Signals[0].Phases[5].Green = []int{7} }}, {3, 0, func(m *api.Map) { m.Signals[0].Phases[2].Green[0] = 10 }}, {3, 0, func(m *api.Map) { m.Signals[0].Phases = m.Signals[0].Phases[:5] }}, {3, 1, func(m *api.Map) { m.Signals[1].Phases[0].Green = nil }},
		{4, 4, func(m *api.Map) { m.Works[4].Lane++ }}, {4, 4, func(m *api.Map) { m.Works[4].From++ }}, {4, 5, func(m *api.Map) { m.Works[5].To++ }}, {4, 6, func(m *api.Map) { m.Works[6].Begin++ }}, {4, 7, func(m *api.Map) { m.Works[7].End++ }}, {4, 0, func(m *api.Map) { m.Works[0].Limit++ }},
	} {
		b := full()
		x.change(&b)
		p, e := roads.Diff(full(), b)
		if e != api.OK || len(p.Edits) != 1 || p.Edits[0].Kind != api.EditChange || p.Edits[0].Table != x.table || p.Edits[0].At != x.at {
			t.Error(i, e, p.Edits)
		}
		if roads.Same(full(), b) || roads.Same(b, full()) {
			t.Error(i, "is the same")
		}
		to, e := roads.Apply(full(), p)
		b.Version = 6
		if e != api.OK || !roads.Same(to, b) {
			t.Error(i, e)
		}
	}
}

// P3.6: the edits of any two maps, in their order.
func TestDiffPlain(t *testing.T) {
	list := towns(61, 300)
	for i, a := range list {
		b := list[(7*i+3)%len(list)]
		var want []api.Edit
		rows := func(table, count, to int, same func(i int) bool, make func(kind, i int) api.Edit) {
			for n := range min(count, to) {
				if !same(n) {
					want = append(want, make(api.EditChange, n))
				}
			}
			for n := count; n < to; n++ {
				want = append(want, make(api.EditAdd, n))
			}
			for n := count - 1; n >= to; n-- {
				want = append(want, edit(api.EditDrop, table, n))
			}
		}
		rows(1, len(a.Lanes), len(b.Lanes), func(n int) bool {
			return roads.Same(api.Map{Lanes: a.Lanes[n : n+1]}, api.Map{Lanes: b.Lanes[n : n+1]})
		}, func(kind, n int) api.Edit { return withLane(kind, n, b.Lanes[n]) })
		rows(2, len(a.Zones), len(b.Zones), func(n int) bool {
			return roads.Same(api.Map{Zones: a.Zones[n : n+1]}, api.Map{Zones: b.Zones[n : n+1]})
		}, func(kind, n int) api.Edit { return withZone(kind, n, b.Zones[n]) })
		rows(3, len(a.Signals), len(b.Signals), func(n int) bool {
			return roads.Same(api.Map{Signals: a.Signals[n : n+1]}, api.Map{Signals: b.Signals[n : n+1]})
		}, func(kind, n int) api.Edit { return withSignal(kind, n, b.Signals[n]) })
		rows(4, len(a.Works), len(b.Works), func(n int) bool { return a.Works[n] == b.Works[n] }, func(kind, n int) api.Edit { return withWork(kind, n, b.Works[n]) })
		p, e := roads.Diff(a, b)
		if e != api.OK || p.Base != a.Version || !sameEdits(p.Edits, want) {
			t.Error(i, e, p)
		}
	}
}
