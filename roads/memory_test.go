package roads_test

import (
	"reflect"
	"slices"
	"testing"

	"kerbstone/api"
	"kerbstone/roads"
)

// roomy returns an equal value in which each list has room behind its end. It
// is filled with copies of the list's first element.
func roomy[V any](v V) V {
	x := reflect.ValueOf(&v).Elem()
	makeRoom(x)
	return v
}

func makeRoom(x reflect.Value) {
	switch x.Kind() {
	case reflect.Struct:
		for i := range x.NumField() {
			makeRoom(x.Field(i))
		}
	case reflect.Slice:
		n := x.Len()
		if n == 0 {
			return
		}
		all := reflect.MakeSlice(x.Type(), n+5, n+5)
		reflect.Copy(all, x)
		for i := range all.Len() {
			if i >= n {
				all.Index(i).Set(x.Index(0))
			}
			makeRoom(all.Index(i))
		}
		x.Set(all.Slice(0, n))
	}
}

// whole returns a copy of a value in which each list has its room as elements.
func whole[V any](v V) V {
	var to V
	copyWhole(reflect.ValueOf(&to).Elem(), reflect.ValueOf(v))
	return to
}

func copyWhole(to, x reflect.Value) {
	switch x.Kind() {
	case reflect.Struct:
		for i := range x.NumField() {
			copyWhole(to.Field(i), x.Field(i))
		}
	case reflect.Slice:
		all := x.Slice(0, x.Cap())
		to.Set(reflect.MakeSlice(x.Type(), all.Len(), all.Len()))
		for i := range all.Len() {
			copyWhole(to.Index(i), all.Index(i))
		}
	default:
		to.Set(x)
	}
}

// places is the memory of a list.
type places struct{ from, to uintptr }

// memory returns the memory of all lists in the values.
func memory(l ...any) []places {
	var all []places
	var add func(x reflect.Value)
	add = func(x reflect.Value) {
		switch x.Kind() {
		case reflect.Struct:
			for i := range x.NumField() {
				add(x.Field(i))
			}
		case reflect.Slice:
			if size := uintptr(x.Len()) * x.Type().Elem().Size(); size > 0 {
				all = append(all, places{x.Pointer(), x.Pointer() + size})
			}
			for i := range x.Len() {
				add(x.Index(i))
			}
		}
	}
	for _, v := range l {
		add(reflect.ValueOf(v))
	}
	return all
}

// shared reports whether two lists in the results, or one there and one in the
// arguments, have memory in common.
func shared(results, arguments []places) bool {
	for i, p := range results {
		for _, q := range append(slices.Clone(arguments), results[:i]...) {
			if p.from < q.to && q.from < p.to {
				return true
			}
		}
	}
	return false
}

// call calls all functions that take a map, and returns their results.
func call(m api.Map, route []int, p api.Patch, other api.Map) []any {
	copied := roads.Copy(m)
	applied, _ := roads.Apply(m, p)
	patch, _ := roads.Diff(m, other)
	text, _ := roads.Bytes(m)
	read, _ := roads.Read(text)
	roads.Check(m)
	roads.Fit(m)
	roads.Same(m, other)
	results := []any{copied, applied, patch, read, roads.Clashes(m), roads.Clashes(m), roads.Sources(m), roads.Starts(m, route), roads.Starts(m, route), roads.Passes(m, route)}
	roads.CheckRoute(m, route)
	roads.RouteLength(m, route)
	roads.Place(m, route, 20000)
	for i := range m.Lanes {
		roads.Length(m, i)
		roads.Leads(m, 0, i)
		roads.Limit(m, i, 5, 5)
		roads.Green(m, 0, i, 5)
		results = append(results, roads.Before(m, i), roads.Red(m, i, 5), roads.Red(m, i, 5))
	}
	for i := range m.Zones {
		roads.Entry(m, route, i)
		results = append(results, roads.Entries(m, i))
	}
	return results
}

// everything is a patch of the fork that adds and changes rows of all tables.
func everything() api.Patch {
	return api.Patch{Base: 7, Edits: []api.Edit{
		withLane(3, 5, lane(of(70000, 20000, 70000, 0))), withLane(1, 6, lane(of(50000, 0, 90000, 30000))), withLane(3, 2, lane(of(20000, 0, 50000, 0), 3, 4, 6)),
		edit(2, 2, 2), withZone(3, 1, zone(2, part(3, 0, 5, 0), part(5, 0, 9, 0))), withZone(1, 2, zone(2, part(1, 0, 5, 0), part(5, 0, 9, 0))),
		withSignal(3, 0, api.Signal{Phases: []api.Phase{phase(5, 3)}}), withSignal(1, 1, api.Signal{Phases: []api.Phase{phase(1, 2, 5), phase(9, 4)}}),
		withWork(1, 0, work(0, 0, 5, 5, 8, 9)),
	}}
}

// R4
func TestArgumentsStay(t *testing.T) {
	type arguments struct {
		M, Other api.Map
		Route    []int
		P        api.Patch
	}
	bad := full()
	bad.Works[7].Lane = 12
	for i, a := range []arguments{
		{fork(), full(), []int{0, 2, 4}, everything()},
		{full(), fork(), []int{0, 3, 7}, api.Patch{Base: 5, Edits: []api.Edit{edit(2, 4, 7), edit(2, 3, 3)}}},
		{full(), fork(), []int{0, 3, 7}, api.Patch{Base: 5, Edits: []api.Edit{edit(2, 4, 7), withWork(1, 7, work(0, 0, 0, 0, 1, 0)), withLane(3, 0, lane(row(2))), edit(2, 4, 7), {}}}},
		{bad, lights(), []int{1, 4, 7}, everything()},
		{lights(), cross(), []int{1}, api.Patch{Edits: []api.Edit{withWork(1, 2, work(0, 0, 0, 0, 1, 0)), edit(2, 4, 2), edit(2, 4, 1)}}},
	} {
		a = roomy(a)
		first := whole(a)
		results := call(a.M, a.Route, a.P, a.Other)
		if !reflect.DeepEqual(whole(a), first) {
			t.Error(i, "an argument was changed")
		}
		if shared(memory(results...), memory(a)) {
			t.Error(i, "results share memory")
		}
	}
}

// R4: the rows of a map, and those of a patch, may share memory with each
// other; those of a result do not.
func TestRowsShareNothing(t *testing.T) {
	green, l, z := []int{0, 1}, lane(of(0, 0, 9000, 0)), zone(0, part(0, 0, 5, 0), part(1, 0, 5, 1))
	s := api.Signal{Phases: []api.Phase{phase(3, green...), phase(4, green...)}}
	s.Phases[0].Green, s.Phases[1].Green = green, green
	m := api.Map{Lanes: []api.Lane{l, l}, Zones: []api.Zone{z, z}, Signals: []api.Signal{s, s}}
	patch := api.Patch{Edits: []api.Edit{withLane(1, 2, l), withLane(1, 3, l), withZone(1, 2, z), withZone(3, 1, z), withSignal(1, 2, s), withSignal(3, 1, s)}}
	if e := roads.Check(m); e != api.OK {
		t.Fatal(e)
	}
	if to := roads.Copy(m); shared(memory(to), memory(m)) || !roads.Same(to, m) {
		t.Error("Copy")
	}
	if to, e := roads.Apply(m, patch); e != api.OK || len(to.Lanes) != 4 || shared(memory(to), memory(m, patch)) {
		t.Error("Apply", e)
	}
	if p, e := roads.Diff(cross(), m); e != api.OK || len(p.Edits) != 6 || shared(memory(p), memory(m)) {
		t.Error("Diff", e)
	}
}

// P3.7, R4
func TestSame(t *testing.T) {
	empty := api.Map{Lanes: []api.Lane{{Next: []int{}, Curve: api.Curve{Pts: []api.Spot{}}}}, Zones: []api.Zone{{Parts: []api.Part{}}}, Signals: []api.Signal{{Phases: []api.Phase{}}, {Phases: []api.Phase{{Green: []int{}}}}}, Works: []api.Work{}}
	none := api.Map{Lanes: []api.Lane{{}}, Zones: []api.Zone{{}}, Signals: []api.Signal{{}, {Phases: []api.Phase{{}}}}}
	list := append(towns(81, 40), api.Map{}, none)
	maps, _ := broken()
	for i := 0; i < len(maps); i += 7 {
		list = append(list, maps[i])
	}
	for i, a := range list {
		for k, b := range list {
			if roads.Same(a, b) != slices.Equal(numbersOf(a), numbersOf(b)) {
				t.Error(i, k)
			}
		}
		if c := roads.Copy(a); !roads.Same(a, c) || !slices.Equal(numbersOf(a), numbersOf(c)) || shared(memory(c), memory(a)) {
			t.Error(i, "Copy")
		}
	}
	if !roads.Same(empty, none) || !roads.Same(none, empty) || !roads.Same(api.Map{}, api.Map{Lanes: []api.Lane{}, Zones: []api.Zone{}, Signals: []api.Signal{}, Works: []api.Work{}}) || !roads.Same(roads.Copy(empty), none) {
		t.Error("a nil list is not like an empty one")
	}
}

// P3.7: each field counts, also in maps that are not valid.
func TestSameOfEachField(t *testing.T) {
	numbers := numbersOf(full())
	for i, change := range []func(m *api.Map){
		func(m *api.Map) { m.Version++ }, func(m *api.Map) { m.Lanes = m.Lanes[:11] }, func(m *api.Map) { m.Zones = m.Zones[:11] }, func(m *api.Map) { m.Signals = m.Signals[:3] }, func(m *api.Map) { m.Works = m.Works[:7] },
		func(m *api.Map) { m.Lanes[4].Kind = 9 }, func(m *api.Map) { m.Lanes[4].Half++ }, func(m *api.Map) { m.Lanes[4].Limit++ }, func(m *api.Map) { m.Lanes[4].Next = nil }, func(m *api.Map) { m.Lanes[0].Next[2]++ }, func(m *api.Map) { m.Lanes[11].Curve.Pts[15].Y++ }, func(m *api.Map) { m.Lanes[0].Curve.Pts[0].X++ }, func(m *api.Map) { m.Lanes[0].Curve.Pts = m.Lanes[0].Curve.Pts[:1] },
		func(m *api.Map) { m.Zones[2].Signal++ }, func(m *api.Map) { m.Zones[2].Parts[1].Lane++ }, func(m *api.Map) { m.Zones[2].Parts[1].From++ }, func(m *api.Map) { m.Zones[2].Parts[1].To++ }, func(m *api.Map) { m.Zones[2].Parts[1].Rank++ }, func(m *api.Map) { m.Zones[2].Parts = m.Zones[2].Parts[:1] },
		func(m *api.Map) { m.Signals[3].Offset++ }, func(m *api.Map) { m.Signals[3].Phases[1].Ticks++ }, func(m *api.Map) { m.Signals[3].Phases[1].Green[0]++ }, func(m *api.Map) { m.Signals[3].Phases[1].Green = nil }, func(m *api.Map) { m.Signals[3].Phases = m.Signals[3].Phases[:1] },
		func(m *api.Map) { m.Works[7].Lane++ }, func(m *api.Map) { m.Works[7].From++ }, func(m *api.Map) { m.Works[7].To++ }, func(m *api.Map) { m.Works[7].Begin++ }, func(m *api.Map) { m.Works[7].End++ }, func(m *api.Map) { m.Works[7].Limit++ },
	} {
		m := full()
		change(&m)
		if roads.Same(m, full()) || roads.Same(full(), m) {
			t.Error(i)
		}
		if c := roads.Copy(m); !slices.Equal(numbersOf(c), numbersOf(m)) || slices.Equal(numbersOf(c), numbers) {
			t.Error(i, "Copy")
		}
	}
}

// R4, R6: the same arguments have the same results.
func TestSameAgain(t *testing.T) {
	for i, m := range towns(82, 40) {
		list := routes(m)
		route := list[len(list)/2]
		first := call(m, route, api.Patch{Base: m.Version}, full())
		if !reflect.DeepEqual(first, call(m, route, api.Patch{Base: m.Version}, full())) {
			t.Error(i)
		}
	}
}

// P1, R5
func TestAnyArguments(t *testing.T) {
	maps, _ := broken()
	maps = append(maps, api.Map{}, full(), fork(), ring(), star())
	values := []int{low, low + 1, -1, 0, 1, 5, 11, 12, 31, 32, 63, 64, far - 1, far}
	for i, m := range maps {
		for _, n := range values {
			for _, k := range []int64{low, -1, 0, 7, far} {
				roads.Leads(m, n, int(k))
				roads.Leads(m, int(k), n)
				roads.Green(m, n, int(k), k)
				roads.Green(m, 0, n, k)
				roads.Red(m, n, k)
				roads.Limit(m, n, k, k)
				roads.Limit(m, 0, k, int64(n))
				roads.Place(m, []int{0}, k)
			}
			roads.Length(m, n)
			roads.Before(m, n)
			roads.Entries(m, n)
			roads.Entry(m, []int{0}, n)
			for _, route := range [][]int{{n}, {0, n}, {n, n}, {0, 2, n}, slices.Repeat([]int{n}, 300)} {
				roads.CheckRoute(m, route)
				roads.Passes(m, route)
			}
			for table := -1; table < 6; table++ {
				for kind := -1; kind < 5; kind++ {
					roads.Apply(m, api.Patch{Base: m.Version, Edits: []api.Edit{edit(kind, table, n), edit(kind, table, n)}})
				}
			}
		}
		roads.Same(m, maps[(i+1)%len(maps)])
		call(m, []int{0}, api.Patch{}, maps[(i+5)%len(maps)])
	}
}
