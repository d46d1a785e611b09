package plan_test

import (
	"slices"
	"testing"

	"kerbstone/api"
	"kerbstone/plan"
)

// fields are the fields of a car, with the least and the greatest value of each.
func fields(c *api.Car) []field {
	return []field{
		{&c.Len, 300, 20000}, {&c.Accel, 1, 30}, {&c.Brake, 20, 90}, {&c.Rate, 5, 120},
	}
}

type field struct {
	value    *int64
	min, max int64
}

// P7.1
func TestCheckCar(t *testing.T) {
	if e := plan.CheckCar(car()); e != api.OK {
		t.Error(e)
	}
	if e := plan.CheckCar(api.Car{}); e != api.ErrRange {
		t.Error(e)
	}
	for i := range fields(&api.Car{}) {
		c := car()
		f := fields(&c)[i]
		for _, v := range []int64{f.min, f.max} {
			if *f.value = v; plan.CheckCar(c) != api.OK {
				t.Error(i, v)
			}
		}
		for _, v := range []int64{f.min - 1, f.max + 1, -f.min, 0, -1, low, far} {
			if *f.value = v; plan.CheckCar(c) != api.ErrRange {
				t.Error(i, v)
			}
		}
	}
	for _, x := range []struct {
		delay int
		want  api.Errno
	}{{0, api.OK}, {1, api.OK}, {5, api.OK}, {-1, api.ErrRange}, {6, api.ErrRange}, {low, api.ErrRange}, {far, api.ErrRange}} {
		c := car()
		if c.Delay = x.delay; plan.CheckCar(c) != x.want {
			t.Error(x)
		}
	}
	least, greatest := api.Car{Len: 300, Accel: 1, Brake: 20, Rate: 5}, api.Car{Len: 20000, Accel: 30, Brake: 90, Rate: 120, Delay: 5}
	if plan.CheckCar(least) != api.OK || plan.CheckCar(greatest) != api.OK {
		t.Error("the least and the greatest car")
	}
}

// some returns so many acts.
func some(count int, act int64) []int64 { return slices.Repeat([]int64{act}, count) }

// P7.1
func TestCheck(t *testing.T) {
	for i, x := range []struct {
		p    api.Plan
		want api.Errno
	}{
		{acts(0, -30, -60), api.OK}, {acts(0, -40), api.ErrOrder}, {acts(10), api.ErrRange}, {acts(), api.ErrShort}, {api.Plan{}, api.ErrShort},
		{acts(0), api.OK}, {acts(-60), api.OK}, {acts(-61), api.ErrRange}, {acts(1), api.ErrRange}, {acts(20, 0), api.OK}, {acts(21, 0), api.ErrRange}, {acts(20), api.ErrRange},
		{acts(-60, 0), api.ErrOrder}, {acts(-60, -30, 0, 20, 0), api.OK}, {acts(-60, -29, 0), api.ErrOrder}, {acts(-31, -60, -29), api.ErrOrder}, {acts(0, -30, 0), api.OK}, {acts(0, -31, 0), api.ErrOrder}, {acts(0, 20, -11, 0), api.ErrOrder}, {acts(0, 20, -10, 0), api.OK},
		// A range is found before an order, wherever both are.
		{acts(-60, 0, -61), api.ErrRange}, {acts(-60, 0, 5), api.ErrRange}, {acts(0, far), api.ErrRange}, {acts(low, 0), api.ErrRange}, {acts(far, low), api.ErrRange}, {acts(0, 20, 21, 0), api.ErrRange},
		{acts(some(200, 0)...), api.OK}, {acts(some(201, 0)...), api.ErrLong}, {acts(some(201, 99)...), api.ErrLong}, {acts(some(200, 99)...), api.ErrRange}, {acts(some(200, 1)...), api.ErrRange}, {acts(append(some(199, 20), 0)...), api.OK},
	} {
		if e := plan.Check(car(), x.p); e != x.want {
			t.Error(i, e)
		}
	}
	// The car comes first.
	for _, p := range []api.Plan{acts(0), acts(), acts(some(201, 0)...), acts(99), acts(-60, 0)} {
		c := car()
		if c.Brake = 91; plan.Check(c, p) != api.ErrRange {
			t.Error(p)
		}
	}
}

// P7.1: Check finds what a plain second computation finds, near all bounds.
func TestCheckOfAnyPlans(t *testing.T) {
	d := &dice{21}
	valid := 0
	for i := range 20000 {
		c := d.car()
		l := d.acts(c, d.pick(0, d.roll(-c.Brake, c.Accel)), d.roll(1, 6))
		if d.often(60) {
			k := d.roll(0, int64(len(l))-1)
			l[k] = d.pick(c.Accel+1, -c.Brake-1, c.Accel, -c.Brake, l[k]+d.roll(-3, 3), d.roll(-130, 60))
		}
		p := acts(l...)
		e := plan.Check(c, p)
		if (e == api.OK) != isPlan(c, p) {
			t.Fatal(i, c, p, e)
		}
		outside := l[len(l)-1] > 0
		for _, act := range l {
			outside = outside || act < -c.Brake || act > c.Accel
		}
		if e != api.OK && (e == api.ErrRange) != outside {
			t.Fatal(i, c, p, e)
		}
		if e == api.OK {
			valid++
		}
	}
	if valid < 3000 {
		t.Error(valid)
	}
}

// P7.1
func TestAct(t *testing.T) {
	for i, x := range []struct {
		p    api.Plan
		at   int
		want int64
	}{
		{acts(0, -30), 5, -30}, {acts(0, -30), 0, 0}, {acts(0, -30), 1, -30}, {acts(0, -30), 2, -30}, {acts(5, -30), -1, 5}, {acts(5, -30), low, 5}, {acts(5, -30), far, -30},
		{acts(), 0, 0}, {acts(), -1, 0}, {acts(), 7, 0}, {acts(9), 0, 9}, {acts(9), 1, 9}, {acts(9), -1, 9}, {acts(7, far, low), 1, far}, {acts(7, far, low), 2, low}, {acts(7, far, low), 3, low},
	} {
		if act := plan.Act(x.p, x.at); act != x.want {
			t.Error(i, act)
		}
	}
}

// P7.1
func TestTail(t *testing.T) {
	for i, x := range []struct{ p, want api.Plan }{
		{acts(0, -30), acts(-30)}, {acts(-30), acts(-30)}, {acts(), acts()}, {api.Plan{}, api.Plan{}}, {acts(1, 2, 3), acts(2, 3)}, {acts(far, low), acts(low)}, {acts(some(300, 4)...), acts(some(299, 4)...)},
	} {
		if p := plan.Tail(x.p); !slices.Equal(p.Acts, x.want.Acts) {
			t.Error(i, p)
		}
	}
}

// P7.1
func TestSame(t *testing.T) {
	for i, x := range []struct {
		a, b api.Plan
		want bool
	}{
		{acts(), acts(), true}, {api.Plan{}, api.Plan{Acts: []int64{}}, true}, {acts(0), acts(), false}, {acts(), acts(0), false}, {acts(0), acts(0), true}, {acts(0), acts(0, 0), false}, {acts(0, 0), acts(0), false},
		{acts(1, 2, 3), acts(1, 2, 3), true}, {acts(1, 2, 3), acts(1, 2, 4), false}, {acts(1, 2, 3), acts(1, 4, 3), false}, {acts(1, 2, 3), acts(4, 2, 3), false}, {acts(low, far), acts(low, far), true}, {acts(low), acts(far), false},
	} {
		if plan.Same(x.a, x.b) != x.want {
			t.Error(i)
		}
	}
}
