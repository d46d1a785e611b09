package roads_test

import (
	"math"
	"slices"

	"kerbstone/api"
)

// flaw is a change that makes the full map invalid, and the error.
type flaw struct {
	want api.Errno
	make func(m *api.Map)
}

// flaws returns flaws of the full map. Those of one list are found at one
// place of the check; the lists are in the order in which they are found.
func flaws() [][]flaw {
	all := countFlaws()
	for _, i := range []int{0, 1, 6, 9, 11} {
		all = append(all, laneFlaws(i)...)
	}
	all = append(all, nextFlaws()...)
	for i := range api.MaxSignals {
		all = append(all, signalFlaws(i)...)
	}
	for _, i := range []int{0, 1, 11} {
		all = append(all, zoneFlaws(i)...)
	}
	for _, i := range []int{0, 1, 2, 7} {
		all = append(all, workFlaws(i)...)
	}
	return all
}

// put makes flaws with one error: one for each value of a field.
func put[V any](want api.Errno, field func(m *api.Map) *V, values ...V) []flaw {
	var all []flaw
	for _, v := range values {
		all = append(all, flaw{want, func(m *api.Map) { *field(m) = v }})
	}
	return all
}

// far and low are numbers that are in no range.
const far, low = math.MaxInt64, math.MinInt64

func countFlaws() [][]flaw {
	return [][]flaw{
		put(api.ErrRange, func(m *api.Map) *int64 { return &m.Version }, -1, api.MaxTick+1, low, far),
		put(api.ErrShort, func(m *api.Map) *[]api.Lane { return &m.Lanes }, nil, []api.Lane{}),
		{
			{api.ErrFull, func(m *api.Map) { m.Lanes = append(m.Lanes, lane(row(2))) }},
			{api.ErrFull, func(m *api.Map) { m.Zones = append(m.Zones, m.Zones[1]) }},
			{api.ErrFull, func(m *api.Map) { m.Signals = append(m.Signals, m.Signals[1]) }},
			{api.ErrFull, func(m *api.Map) { m.Works = append(m.Works, m.Works[1]) }},
			{api.ErrFull, func(m *api.Map) { m.Lanes = make([]api.Lane, 100) }},
		},
	}
}

func laneFlaws(i int) [][]flaw {
	most := map[int]int64{0: 2000, 1: 2000, 6: 1000, 9: 300, 11: 2000}[i]
	shape := func(m *api.Map) *api.Curve { return &m.Lanes[i].Curve }
	next := func(m *api.Map) *[]int { return &m.Lanes[i].Next }
	return [][]flaw{
		put(api.ErrKind, func(m *api.Map) *int { return &m.Lanes[i].Kind }, 0, -1, 4, far, low),
		slices.Concat(
			put(api.ErrShort, shape, of(0, 0), api.Curve{}), put(api.ErrLong, shape, row(17)), put(api.ErrForm, shape, of(0, 0, 1000, 1000)),
			put(api.ErrRange, shape, of(0, 0, api.MaxSpot+1, 0), of(0, 0, 999, 0)), put(api.ErrClash, shape, of(0, 0, 3000, 0, 3000, 3000)),
		),
		slices.Concat(
			put(api.ErrRange, func(m *api.Map) *int64 { return &m.Lanes[i].Half }, 199, 4001, 0, -200, low, far),
			put(api.ErrRange, func(m *api.Map) *int64 { return &m.Lanes[i].Limit }, 0, most+1, -1, low, far),
		),
		put(api.ErrFull, next, []int{3, 4, 5, 6}, []int{12, 0, 0, -1, 5}, make([]int, 1000)),
		put(api.ErrOrder, next, []int{i}, []int{i - 1}, []int{12}, []int{11, 11}, []int{11, 10}, []int{-1}, []int{10, 11, 12}, []int{far}, []int{low}),
	}
}

func nextFlaws() [][]flaw {
	next := func(i int) func(m *api.Map) *[]int {
		return func(m *api.Map) *[]int { return &m.Lanes[i].Next }
	}
	return [][]flaw{
		slices.Concat(put(api.ErrKind, next(0), []int{2}, []int{3, 4, 9}), put(api.ErrForm, next(0), []int{1}, []int{3, 4, 7}, []int{4, 10, 11})),
		slices.Concat(put(api.ErrKind, next(1), []int{8}, []int{3, 4, 9}), put(api.ErrForm, next(1), []int{7}, []int{3, 11})),
		put(api.ErrKind, next(2), []int{3}, []int{6, 9}),
		put(api.ErrForm, next(10), []int{11}),
	}
}

func signalFlaws(i int) [][]flaw {
	last := func(m *api.Map) *api.Phase { return &m.Signals[i].Phases[len(m.Signals[i].Phases)-1] }
	phases := func(m *api.Map) *[]api.Phase { return &m.Signals[i].Phases }
	return [][]flaw{
		slices.Concat(put(api.ErrShort, phases, nil, []api.Phase{}), put(api.ErrFull, phases, slices.Repeat([]api.Phase{phase(1)}, 7), make([]api.Phase, 1000))),
		slices.Concat(
			put(api.ErrRange, func(m *api.Map) *int64 { return &m.Signals[i].Offset }, -1, api.MaxTick+1, low, far),
			put(api.ErrRange, func(m *api.Map) *int64 { return &m.Signals[i].Phases[0].Ticks }, 0, 10001),
			put(api.ErrRange, func(m *api.Map) *int64 { return &last(m).Ticks }, 0, -1, 10001, low, far),
		),
		slices.Concat(
			put(api.ErrOrder, func(m *api.Map) *[]int { return &m.Signals[i].Phases[0].Green }, []int{12}, []int{-1}, []int{1, 1}, []int{2, 1}, []int{0, 11, 12}, []int{far}, []int{low}, make([]int, 1000)),
			put(api.ErrOrder, func(m *api.Map) *[]int { return &last(m).Green }, []int{5, 5}, []int{0, 1, 2, 3, 4, 5, 6, 7, 8, 9, 10, 11, 12}),
		),
	}
}

func zoneFlaws(i int) [][]flaw {
	parts := func(m *api.Map) *[]api.Part { return &m.Zones[i].Parts }
	first := func(m *api.Map) *api.Part { return &m.Zones[i].Parts[0] }
	last := func(m *api.Map) *api.Part { return &m.Zones[i].Parts[len(m.Zones[i].Parts)-1] }
	end := map[int]int64{0: 15000, 1: 100000, 11: 100000}[i]
	seven := []api.Part{part(0, 0, 1, 0), part(1, 0, 1, 0), part(2, 0, 1, 0), part(3, 0, 1, 0), part(4, 0, 1, 0), part(5, 0, 1, 0), part(6, 0, 1, 0)}
	return [][]flaw{
		slices.Concat(put(api.ErrShort, parts, nil, seven[:1]), put(api.ErrFull, parts, seven, make([]api.Part, 1000))),
		put(api.ErrRange, func(m *api.Map) *int { return &m.Zones[i].Signal }, -1, 5, far, low),
		slices.Concat(
			put(api.ErrOrder, func(m *api.Map) *int { return &last(m).Lane }, 12, 7, 0, -1, far, low),
			put(api.ErrOrder, func(m *api.Map) *int { return &first(m).Lane }, -1, 12, 11, low),
		),
		slices.Concat(
			put(api.ErrRange, func(m *api.Map) *int64 { return &first(m).From }, -1),
			put(api.ErrRange, func(m *api.Map) *int { return &first(m).Rank }, -1, 101),
			put(api.ErrRange, func(m *api.Map) *int64 { return &last(m).From }, -1, end, end+1, low, far),
			put(api.ErrRange, func(m *api.Map) *int64 { return &last(m).To }, end+1, 0, -1, far, low),
			put(api.ErrRange, func(m *api.Map) *int { return &last(m).Rank }, -1, 101, far, low),
			[]flaw{{api.ErrRange, func(m *api.Map) { first(m).From = first(m).To }}},
		),
	}
}

func workFlaws(i int) [][]flaw {
	at := func(m *api.Map) *api.Work { return &m.Works[i] }
	most := map[int]int64{0: 2000, 1: 300, 2: 2000, 7: 2000}[i]
	return [][]flaw{
		put(api.ErrMissing, func(m *api.Map) *int { return &at(m).Lane }, -1, 12, far, low),
		slices.Concat(
			put(api.ErrRange, func(m *api.Map) *int64 { return &at(m).From }, -1, 100001, low, far),
			put(api.ErrRange, func(m *api.Map) *int64 { return &at(m).To }, 100001, -1, low, far),
			put(api.ErrRange, func(m *api.Map) *int64 { return &at(m).Begin }, -1, api.MaxTick, low, far),
			put(api.ErrRange, func(m *api.Map) *int64 { return &at(m).End }, api.MaxTick+1, 0, low, far),
			put(api.ErrRange, func(m *api.Map) *int64 { return &at(m).Limit }, -1, most+1, low, far),
			[]flaw{
				{api.ErrRange, func(m *api.Map) { at(m).Begin = at(m).End }},
				{api.ErrRange, func(m *api.Map) { at(m).From, at(m).To = 6, 5 }},
			},
		),
	}
}

// broken returns full maps with one flaw each, and the errors.
func broken() ([]api.Map, []api.Errno) {
	var maps []api.Map
	var errors []api.Errno
	for _, place := range flaws() {
		for _, f := range place {
			m := full()
			f.make(&m)
			maps, errors = append(maps, m), append(errors, f.want)
		}
	}
	return maps, errors
}
