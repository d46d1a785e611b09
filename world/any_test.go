package world_test

import (
	"testing"

	"kerbstone/api"
	"kerbstone/world"
)

// P1, R5: no arguments make a function panic, or never end.
func TestAnyArguments(t *testing.T) {
	d := &dice{71}
	near := func(n int64) int64 {
		return d.pick(n, n, n, n, n+1, n-1, 0, -1, far, low, api.MaxTick, api.MaxTick+1, d.roll(-9, 9))
	}
	for _, x := range stages(t, 72, 3000) {
		m, s := x.m, world.Copy(x.s)
		for range d.roll(1, 4) {
			a := &s.Agents[d.roll(0, int64(len(s.Agents))-1)]
			switch d.roll(0, 9) {
			case 0:
				a.S = near(a.S)
			case 1:
				a.V = near(a.V)
			case 2:
				a.Len = near(a.Len)
			case 3:
				a.Begin = near(a.Begin)
			case 4:
				a.Gone, a.Obey = d.often(50), d.often(50)
			case 5:
				a.Route = append(a.Route, int(near(3)))
			case 6:
				a.Route[0] = int(near(0))
			case 7:
				s.Tick = near(s.Tick)
			case 8:
				s.In = append(s.In, api.Stay{Agent: int(near(9)), Zone: int(near(9)), Since: near(s.Tick), Rank: int(near(1))})
			case 9:
				m = d.town()
			}
		}
		if world.Check(m, s) == api.OK && s.Tick < api.MaxTick {
			if to, _, e := world.Step(m, s, d.acts(s)); e != api.OK || world.Check(m, to) != api.OK {
				t.Error(e, s, to)
			}
		}
		callAny(m, s, near)
	}
	callAny(api.Map{}, api.State{}, near)
}

// callAny calls all functions.
func callAny(m api.Map, s api.State, near func(n int64) int64) {
	world.New(m, s.Agents)
	world.Step(m, s, []int64{near(5), near(-5)})
	world.Seen(m, s, near(30000))
	world.Sense(m, s, near(30000), []int64{near(0), near(0), near(0)})
	world.Speed(s, near(0))
	world.Fix(s, near(0))
	world.Read(world.Bytes(s))
	world.Same(s, world.Copy(s))
	world.Stop(near(100), near(9))
	for i, a := range append([]api.Agent{{}}, s.Agents...) {
		world.There(s, int(near(int64(i))))
		world.Move(m, s, int(near(int64(i))), near(0))
		world.Body(m, a)
		for _, b := range s.Agents {
			world.Touching(m, a, b)
			world.Present(m, a, b, int(near(0)))
		}
		world.Rank(m, a, int(near(0)), near(5))
	}
}
