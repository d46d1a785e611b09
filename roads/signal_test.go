package roads_test

import (
	"slices"
	"testing"

	"kerbstone/api"
	"kerbstone/roads"
)

// ticksOf returns ticks of interest for a signal.
func ticksOf(d *dice, s api.Signal) []int64 {
	l := []int64{0, 1, 2, 24, 25, api.MaxTick, api.MaxTick + 1, far, far - 1, d.roll(0, api.MaxTick), d.roll(0, far-1)}
	var sum int64
	for _, p := range s.Phases {
		sum += p.Ticks
		l = append(l, max(0, sum-1), sum, sum+1)
	}
	for range 5 {
		l = append(l, d.roll(0, 3*sum))
	}
	return l
}

// P3.4
func TestGreenExamples(t *testing.T) {
	green := func(s api.Signal, lane int, want string) {
		t.Helper()
		m := cross()
		m.Signals = []api.Signal{s}
		for tick, c := range want {
			if roads.Green(m, 0, lane, int64(tick)) != (c == 'g') {
				t.Error(lane, tick)
			}
		}
	}
	s := api.Signal{Phases: []api.Phase{phase(3, 0), phase(2), phase(1, 0, 1), phase(4, 1)}}
	green(s, 0, "ggg..g....ggg..g....ggg")
	green(s, 1, ".....ggggg.....ggggg...")
	s.Offset = 4
	green(s, 0, ".g....ggg..g....ggg..g")
	s.Offset = 19
	green(s, 0, ".ggg..g....ggg..g....g")
	green(api.Signal{Phases: []api.Phase{phase(10000, 1)}, Offset: api.MaxTick}, 1, "gggg")
	green(api.Signal{Phases: []api.Phase{phase(1), phase(1, 1)}}, 1, ".g.g.g.g")
	m := lights()
	for i, x := range []struct {
		lane int
		tick int64
		want bool
	}{{1, 15, true}, {1, 14, false}, {1, 24, true}, {1, 25, false}, {0, 25, true}, {0, 0, true}, {0, 9, true}, {0, 10, false}, {1, -10, false}, {0, -1, false}, {0, -25, false}, {0, low, false}, {1, low, false}, {2, 5, false}, {-1, 5, false}} {
		if roads.Green(m, 0, x.lane, x.tick) != x.want {
			t.Error(i)
		}
	}
	for tick := range int64(60) {
		if roads.Green(m, 1, 0, tick) || roads.Green(m, -1, 0, tick) || roads.Green(cross(), 0, 0, tick) {
			t.Error(tick, "a signal that is none is green")
		}
	}
}

// P3.4, R7: the sum of Offset and tick may be greater than an int64 can hold.
func TestGreenPlain(t *testing.T) {
	d := &dice{51}
	greens := 0
	for i, m := range towns(52, 400) {
		for n, s := range m.Signals {
			for _, tick := range ticksOf(d, s) {
				for l := range m.Lanes {
					want := isGreen(s, l, tick)
					if roads.Green(m, n, l, tick) != want {
						t.Error(i, n, l, tick, !want)
					}
					if want {
						greens++
					}
				}
			}
		}
	}
	if greens < 1000 {
		t.Error("too few lanes are green to show anything:", greens)
	}
}

// P3.4
func TestRedExamples(t *testing.T) {
	m := lights()
	for i, x := range []struct {
		lane int
		tick int64
		want []int64
	}{{1, 14, []int64{48000}}, {1, 15, nil}, {0, 15, []int64{48000}}, {0, 0, nil}, {0, 10, []int64{48000}}, {1, 10, []int64{48000}}, {0, -1, nil}, {1, -1, nil}, {0, low, nil}, {2, 10, nil}, {-1, 10, nil}} {
		if l := roads.Red(m, x.lane, x.tick); !slices.Equal(l, x.want) {
			t.Error(i, l)
		}
	}
	if l := roads.Red(cross(), 0, 10); len(l) > 0 {
		t.Error("a zone without a signal has a red line", l)
	}
	// Lines are sorted, and named once; only those that are not green are red.
	m = star()
	m.Signals = []api.Signal{{Phases: []api.Phase{phase(2, 1), phase(3, 0)}}, {Offset: 2, Phases: []api.Phase{phase(2, 1), phase(3, 0)}}}
	m.Zones = nil
	for i, from := range []int64{700, 30, 400, 30, 90, 5} {
		m.Zones = append(m.Zones, zone(1+i%2, part(0, from, 800, i), part(1, from+1, 900, i+1)))
	}
	m.Zones = append(m.Zones, zone(0, part(0, 1, 2, 0), part(1, 1, 2, 1)), zone(1, part(2, 1, 2, 0), part(3, 1, 2, 1)))
	for i, want := range [][]int64{{90, 400, 700}, {90, 400, 700}, nil, {5, 30}, {5, 30}} {
		if l := roads.Red(m, 0, int64(i)); !slices.Equal(l, want) {
			t.Error(i, l)
		}
	}
	for i, want := range [][]int64{{6, 31}, {6, 31}, {6, 31, 91, 401, 701}, {91, 401, 701}, {91, 401, 701}} {
		if l := roads.Red(m, 1, int64(i)); !slices.Equal(l, want) {
			t.Error(i, l)
		}
	}
	if a, b := roads.Red(m, 2, 0), roads.Red(m, 4, 0); !slices.Equal(a, []int64{1}) || len(b) > 0 {
		t.Error(a, b)
	}
}

// P3.4
func TestRedPlain(t *testing.T) {
	d := &dice{53}
	several, double := 0, 0
	for i, m := range towns(54, 400) {
		for _, s := range append([]api.Signal{{Phases: []api.Phase{phase(1)}}}, m.Signals...) {
			for _, tick := range ticksOf(d, s) {
				for l := range m.Lanes {
					var want []int64
					for _, z := range m.Zones {
						for _, p := range z.Parts {
							if p.Lane == l && z.Signal > 0 && !isGreen(m.Signals[z.Signal-1], l, tick) {
								want = append(want, p.From)
							}
						}
					}
					all := len(want)
					slices.Sort(want)
					want = slices.Compact(want)
					if got := roads.Red(m, l, tick); !slices.Equal(got, want) {
						t.Error(i, l, tick, got, want)
					}
					double += all - len(want)
					several += len(want) / 2
				}
			}
		}
	}
	if several < 300 || double < 300 {
		t.Error("too few lines to show anything:", several, double)
	}
}
