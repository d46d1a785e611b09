package world_test

import (
	"slices"
	"testing"

	"kerbstone/api"
	"kerbstone/world"
)

// spans makes spans of triples: the lane, From and To.
func spans(l ...int64) []api.Span {
	var s []api.Span
	for i := 0; i+2 < len(l); i += 3 {
		s = append(s, api.Span{Lane: int(l[i]), From: l[i+1], To: l[i+2]})
	}
	return s
}

// P4.2
func TestThere(t *testing.T) {
	s := state(5, agent(0, 0, 0), agent(0, 0, 9), api.Agent{Begin: 5}, api.Agent{Begin: 6}, api.Agent{Gone: true}, api.Agent{Begin: far}, api.Agent{Begin: low})
	for i, want := range []bool{true, true, true, false, false, false, true, false} {
		if world.There(s, i) != want {
			t.Error(i, !want)
		}
	}
	if world.There(s, -1) || world.There(s, far) || world.There(s, low) || world.There(api.State{}, 0) {
		t.Error("somebody without a number is there")
	}
	// The state need not be valid.
	many := state(far, make([]api.Agent, 100)...)
	if !world.There(many, 99) || world.There(many, 100) {
		t.Error("There of a state that is not valid")
	}
}

// P4.2
func TestStopExamples(t *testing.T) {
	for i, x := range [][3]int64{
		{100, 30, 120}, {90, 90, 0}, {0, 9, 0}, {91, 90, 1}, {2000, 90, 21230}, {1, 1, 0}, {2, 1, 1}, {3, 1, 3}, {3, 2, 1},
		{-1, 5, 0}, {5, -1, 0}, {5, 0, 0}, {low, 1, 0}, {1, low, 0}, {far, low, 0}, {low, low, 0}, {0, 0, 0},
		{1000000, 1, 499999500000}, {1000001, 1, 499999500000}, {far, 1, 499999500000}, {far, 999999, 1}, {far, 1000000, 0}, {far, far, 0}, {999999, 1, 499998500001},
	} {
		if n := world.Stop(x[0], x[1]); n != x[2] {
			t.Error(i, x, n)
		}
	}
}

// P4.2
func TestStopPlain(t *testing.T) {
	for b := int64(1); b < 320; b += 3 {
		for v := range int64(2100) {
			if world.Stop(v, b) != stop(v, b) {
				t.Fatal(v, b)
			}
		}
	}
	for _, b := range []int64{1, 2, 3, 1000, 333333, 500000, 999999, 1000000} {
		for _, v := range []int64{999998, 999999, 1000000} {
			if world.Stop(v, b) != stop(v, b) {
				t.Error(v, b)
			}
		}
	}
}

// P4.2
func TestBodyExamples(t *testing.T) {
	for i, x := range []struct {
		m    api.Map
		a    api.Agent
		want []api.Span
	}{
		{cross(), agent(10000, 1000, 0), spans(0, 6000, 10000)},
		{cross(), agent(3000, 0, 1), spans(1, 0, 3000)},
		{cross(), agent(0, 0, 1), spans(1, 0, 0)},
		{cross(), agent(100000, 0, 0), spans(0, 96000, 100000)},
		{cross(), agent(101000, 0, 0), spans(0, 97000, 100000)},
		{cross(), agent(104000, 0, 0), spans(0, 100000, 100000)},
		{cross(), agent(104001, 0, 0), nil},
		{cross(), agent(api.MaxTick, 0, 0), nil},
		{cross(), with(agent(api.MaxTick, 0, 0), func(a *api.Agent) { a.Len = api.MaxTick }), spans(0, 0, 100000)},
		{cross(), with(agent(5000, 0, 0), func(a *api.Agent) { a.Len = 0 }), spans(0, 5000, 5000)},
		{cross(), with(agent(1, 0, 0), func(a *api.Agent) { a.Len = 0 }), spans(0, 1, 1)},
		{fork(), agent(19999, 0, 0, 2, 3), spans(0, 15999, 19999)},
		{fork(), agent(20000, 0, 0, 2, 3), spans(0, 16000, 20000, 2, 0, 0)},
		{fork(), agent(24000, 0, 0, 2, 3), spans(0, 20000, 20000, 2, 0, 4000)},
		{fork(), agent(24001, 0, 0, 2, 3), spans(2, 1, 4001)},
		{fork(), with(agent(46000, 0, 1, 2, 4), func(a *api.Agent) { a.Len = 36000 }), spans(1, 10000, 15000, 2, 0, 30000, 4, 0, 1000)},
		// It does not matter whether the agent is there.
		{cross(), api.Agent{Route: []int{0}, S: 500, V: far, Len: 300, Begin: low, Gone: true}, spans(0, 200, 500)},
		// Nothing can be said of these.
		{cross(), agent(-1, 0, 0), nil}, {cross(), agent(api.MaxTick+1, 0, 0), nil}, {cross(), agent(far, 0, 0), nil}, {cross(), agent(low, 0, 0), nil},
		{cross(), with(agent(5000, 0, 0), func(a *api.Agent) { a.Len = -1 }), nil},
		{cross(), with(agent(5000, 0, 0), func(a *api.Agent) { a.Len = api.MaxTick + 1 }), nil},
		{cross(), with(agent(5000, 0, 0), func(a *api.Agent) { a.Len = far }), nil},
		{cross(), with(agent(5000, 0, 0), func(a *api.Agent) { a.Len = low }), nil},
		{cross(), agent(5000, 0), nil}, {cross(), agent(5000, 0, 2), nil}, {cross(), agent(5000, 0, 0, 1), nil}, {cross(), agent(5000, 0, -1), nil}, {fork(), agent(5000, 0, 2), nil},
		{api.Map{}, agent(5000, 0, 0), nil},
	} {
		if got := world.Body(x.m, x.a); !slices.Equal(got, x.want) {
			t.Error(i, got)
		}
	}
}

// P4.2
func TestTouchingExamples(t *testing.T) {
	m := fork()
	for i, x := range []struct {
		a, b api.Agent
		want bool
	}{
		{agent(10000, 0, 0), agent(15000, 0, 0), false},
		{agent(10000, 0, 0), agent(14000, 0, 0), true},
		{agent(10000, 0, 0), agent(14001, 0, 0), false},
		{agent(10000, 0, 0), agent(10000, 0, 0), true},
		{agent(10000, 0, 0, 2, 3), agent(10000, 0, 0, 2, 4), true},
		{agent(10000, 0, 0, 2), agent(10000, 0, 1, 2), false},
		{agent(20000, 0, 0, 2), agent(15000, 0, 1, 2), true},
		{agent(19999, 0, 0, 2), agent(15000, 0, 1, 2), false},
		{agent(24000, 0, 0, 2), agent(15000, 0, 1, 2), true},
		{agent(24001, 0, 0, 2), agent(15000, 0, 1, 2), false},
		{agent(55000, 0, 0, 2, 3), agent(50000, 0, 1, 2, 4), false},
		{agent(54000, 0, 0, 2, 3), agent(49000, 0, 1, 2, 4), true},
		{agent(10000, 0, 0), agent(-1, 0, 0), false},
		{agent(0, 0, 0), agent(0, 0, 0), true},
		{agent(0, 0, 0), agent(0, 0), false},
		{with(agent(0, 0, 0), func(a *api.Agent) { a.Begin, a.Gone = far, true }), agent(0, 0, 0), true},
		{with(agent(9000, 0, 0), func(a *api.Agent) { a.Len = far }), agent(9000, 0, 0), false},
	} {
		if world.Touching(m, x.a, x.b) != x.want || world.Touching(m, x.b, x.a) != x.want {
			t.Error(i, !x.want)
		}
		if world.Touching(api.Map{}, x.a, x.b) {
			t.Error(i, "bodies touch without a map")
		}
	}
}

// P4.2: the offsets of a body are those of its coordinates, one by one.
func TestBodyPlain(t *testing.T) {
	touches := 0
	for i, x := range stages(t, 21, 60) {
		for k, a := range x.s.Agents {
			want := map[[2]int64]bool{}
			for _, lane := range a.Route {
				from := start(x.m, a.Route, lane)
				for s := a.S - a.Len; s <= a.S; s++ {
					if s >= from && s <= from+length(x.m, lane) {
						want[[2]int64{int64(lane), s - from}] = true
					}
				}
			}
			parts := world.Body(x.m, a)
			count := 0
			for n, p := range parts {
				for offset := p.From; offset <= p.To; offset++ {
					count++
					if !want[[2]int64{int64(p.Lane), offset}] {
						t.Fatal(i, k, p, offset)
					}
				}
				if n > 0 && slices.Index(a.Route, parts[n-1].Lane) >= slices.Index(a.Route, p.Lane) {
					t.Error(i, k, "not in the order of the route")
				}
			}
			if count != len(want) || !slices.Equal(parts, body(x.m, a)) {
				t.Error(i, k, count, len(want))
			}
		}
	}
	for i, x := range stages(t, 22, 600) {
		for _, a := range x.s.Agents {
			for _, b := range x.s.Agents {
				want := touching(x.m, a, b)
				if world.Touching(x.m, a, b) != want {
					t.Error(i, a, b)
				}
				if want {
					touches++
				}
			}
		}
	}
	if touches < 1000 {
		t.Error("too few bodies touch to show anything:", touches)
	}
}
