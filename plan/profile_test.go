package plan_test

import (
	"math/big"
	"slices"
	"testing"

	"kerbstone/api"
	"kerbstone/plan"
)

// flawed returns cars that are not valid.
func flawed() []api.Car {
	l := []api.Car{{}}
	for i := range fields(&api.Car{}) {
		low, high := car(), car()
		f, g := fields(&low)[i], fields(&high)[i]
		*f.value, *g.value = f.min-1, g.max+1
		l = append(l, low, high)
	}
	late := car()
	late.Delay = 6
	return append(l, late)
}

// P7.2
func TestRamp(t *testing.T) {
	for i, x := range []struct{ a, w, want int64 }{
		{20, -60, -10}, {0, 20, 20}, {-60, 0, -30}, {0, 0, 0}, {0, 30, 20}, {0, 31, 20}, {-11, 20, 19}, {-10, 20, 20}, {-9, 20, 20}, {0, -30, -30}, {0, -29, -29}, {0, -31, -30},
		{-30, -60, -60}, {-29, -60, -59}, {-31, -60, -60}, {-60, -60, -60}, {-60, -90, -60}, {20, 20, 20}, {20, 25, 20}, {-60, -61, -60},
		// An acceleration that the car has not is brought into what it has first.
		{21, -60, -10}, {far, -60, -10}, {far, far, 20}, {far, low, -10}, {low, far, -30}, {low, low, -60}, {-61, 0, -30}, {-100, -60, -60}, {100, 0, 0}, {0, far, 20}, {0, low, -30}, {-5, far, 20}, {5, low, -25},
	} {
		if act := plan.Ramp(car(), x.a, x.w); act != x.want {
			t.Error(i, act)
		}
	}
	for i, c := range flawed() {
		if act := plan.Ramp(c, 10, 10); act != 0 {
			t.Error(i, act)
		}
	}
}

// P7.2: Ramp returns the nearest of all accelerations that are allowed.
func TestRampOfAnyCars(t *testing.T) {
	d := &dice{31}
	for i := range 20000 {
		c := d.car()
		a, w := d.pick(d.roll(-100, 40), d.roll(-100, 40), low, far), d.pick(d.roll(-200, 130), d.roll(-100, 40), 0, c.Accel, -c.Brake, low, far)
		if act := plan.Ramp(c, a, w); act != ramped(c, a, w) {
			t.Fatal(i, c, a, w, act)
		}
	}
}

// P7.2
func TestStops(t *testing.T) {
	slow := api.Car{Len: 300, Accel: 30, Brake: 20, Rate: 5}
	for i, x := range []struct {
		c    api.Car
		a, v int64
		want []int64
	}{
		{car(), 0, 100, []int64{-30, -60, -60}}, {car(), 20, 0, []int64{-10}}, {car(), -60, 0, []int64{-60}},
		{car(), 0, 0, []int64{-30}}, {car(), 0, 30, []int64{-30}}, {car(), 0, 31, []int64{-30, -60}}, {car(), 0, 90, []int64{-30, -60}}, {car(), 0, 91, []int64{-30, -60, -60}}, {car(), -60, 60, []int64{-60}}, {car(), -60, 61, []int64{-60, -60}},
		{car(), 0, -1, []int64{-30}}, {car(), 0, low, []int64{-30}}, {car(), 20, -500, []int64{-10}}, {car(), low, 0, []int64{-60}}, {car(), far, 10, []int64{-10}}, {car(), far, 11, []int64{-10, -40}},
		// It ends when both the speed and the acceleration do.
		{slow, 30, 0, []int64{25, 20, 15, 10, 5, 0, -5, -10, -15, -20, -20, -20}}, {slow, 7, 0, []int64{2, -3}}, {slow, 5, 0, []int64{0}}, {slow, 6, 0, []int64{1, -4}}, {slow, 30, -25, []int64{25, 20, 15, 10, 5, 0, -5, -10, -15, -20, -20, -20}},
	} {
		if l := plan.Stops(x.c, x.a, x.v); !slices.Equal(l, x.want) {
			t.Error(i, l)
		}
	}
	long := plan.Stops(car(), 0, 2000)
	if len(long) != 34 || !slices.Equal(plan.Stops(car(), 0, 2001), long) || !slices.Equal(plan.Stops(car(), 0, far), long) || slices.Equal(plan.Stops(car(), 0, 1900), long) {
		t.Error(len(long))
	}
	for i, c := range flawed() {
		if l := plan.Stops(c, 0, 100); len(l) > 0 {
			t.Error(i, l)
		}
	}
}

// P7.2, P7.11: a stop is as it is written; it ends with the speed 0, a greater
// speed never makes it shorter, and its way is Way.
func TestStopsOfAnyCars(t *testing.T) {
	d := &dice{32}
	longest := 0
	for i := range 400 {
		c := d.car()
		if i == 0 {
			c = api.Car{Len: 300, Accel: 30, Brake: 20, Rate: 5}
		}
		a := d.pick(0, c.Accel, -c.Brake, d.roll(-c.Brake, c.Accel), low, far)
		var before, far int64
		for v := int64(-3); v <= 2003; v += d.pick(1, 1, d.roll(1, 30)) {
			l := plan.Stops(c, a, v)
			if !slices.Equal(l, stopped(c, a, v)) {
				t.Fatal(i, c, a, v, l)
			}
			way, u := int64(0), min(2000, max(0, v))
			for _, act := range l {
				u = changed(u, act)
				way += u
			}
			if u != 0 || l[len(l)-1] > 0 || int64(len(l)) < before || way < far {
				t.Fatal(i, c, a, v, l, u, way, far)
			}
			if plan.Way(ego(5, 9, 0, min(2000, max(0, v))), acts(l...)) != way {
				t.Fatal(i, c, a, v)
			}
			before, far, longest = int64(len(l)), way, max(longest, len(l))
		}
	}
	if longest < 100 || longest > 150 {
		t.Error(longest)
	}
}

// P7.2: a speed below 0 counts as 0, and one above 2000 as 2000, also where a
// stop speeds up first, and 1 more or less makes it longer.
func TestStopsOutsideOfSpeeds(t *testing.T) {
	shorter := 0
	for brake := int64(20); brake <= 90; brake++ {
		for rate := int64(5); rate < 30; rate++ {
			c := api.Car{Len: 300, Accel: 30, Brake: brake, Rate: rate}
			none, top := stopped(c, 30, 0), stopped(c, 30, 2000)
			for _, v := range []int64{-1, -2, -24, -25, -999, low} {
				if !slices.Equal(plan.Stops(c, 30, v), none) || !slices.Equal(plan.Profile(c, nil, 30, v, 0, 0).Acts, none) {
					t.Fatal(c, v)
				}
			}
			for _, v := range []int64{2001, 2002, 2030, 9999, far} {
				if !slices.Equal(plan.Stops(c, -brake, v), stopped(c, -brake, 2000)) || !slices.Equal(plan.Profile(c, nil, 30, v, 0, 0).Acts, top) {
					t.Fatal(c, v)
				}
			}
			if len(stopped(c, 30, 1)) > len(none) {
				shorter++
			}
		}
	}
	if shorter < 20 {
		t.Error(shorter)
	}
}

// P7.5
func TestProfile(t *testing.T) {
	for i, x := range []struct {
		queue    []int64
		last, v  int64
		up, hold int
		want     []int64
	}{
		{[]int64{0}, 0, 0, 1, 0, []int64{0, 20, -10, -40}},
		{nil, 0, 0, 0, 0, []int64{-30}}, {nil, 20, 0, 0, 0, []int64{-10}}, {nil, 0, 100, 0, 0, []int64{-30, -60, -60}}, {nil, 7, 0, 0, 1, []int64{0, -30}}, {nil, -60, 0, 0, 2, []int64{-30, 0, -30}},
		{nil, -60, 0, 3, 0, []int64{-30, 0, 20, -10, -40}}, {nil, -60, 200, 3, 2, []int64{-30, 0, 20, 0, 0, -30, -60, -60, -60}}, {nil, 20, 0, 2, 0, []int64{20, 20, -10, -40}},
		// The queue is done as it is, whatever was last.
		{[]int64{5, -60, 19}, 7, 0, 0, 0, []int64{5, -60, 19, -11, -41}}, {[]int64{5}, 20, 0, 1, 0, []int64{5, 20, -10, -40}}, {[]int64{-50}, 20, 0, 1, 1, []int64{-50, -20, 0, -30}},
		{[]int64{1, 2, 3, 4, 5, 6}, 0, 0, 0, 0, []int64{1, 2, 3, 4, 5, -25}}, {[]int64{1, 2, 3, 4, 5, 6, 7}, 0, 0, 0, 1, []int64{1, 2, 3, 4, 5, 0, -30}}, {[]int64{1, 2, 3, 4, 5}, 0, 0, 1, 0, []int64{1, 2, 3, 4, 5, 20, -10, -40}},
		{[]int64{far}, 0, 0, 0, 0, append([]int64{far, -10, -40}, some(33, -60)...)}, {[]int64{low}, 0, 0, 0, 0, []int64{low, -60}}, {[]int64{low, far, low}, 0, 9, 0, 0, []int64{low, far, low, -60}}, {[]int64{-70}, 0, 71, 0, 0, []int64{-70, -60}},
		{nil, 0, 0, -1, -1, []int64{-30}}, {nil, 0, 0, low, low, []int64{-30}}, {nil, low, 0, 0, 1, []int64{-30, -60}}, {nil, far, 0, 1, 0, []int64{20, -10, -40}},
		// The speed is brought into its bounds with each act.
		{[]int64{20}, 0, -10, 0, 0, []int64{20, -10}}, {[]int64{20}, 0, -9, 0, 0, []int64{20, -10, -40}}, {[]int64{-30, 20}, 0, 5, 0, 0, []int64{-30, 20, -10, -40}}, {nil, 20, low, 0, 0, []int64{-10}}, {[]int64{-1}, 0, low, 0, 0, []int64{-1, -31}}, {[]int64{low}, 0, -1, 0, 0, []int64{low, -60}},
	} {
		if p := plan.Profile(car(), x.queue, x.last, x.v, x.up, x.hold); !slices.Equal(p.Acts, x.want) {
			t.Error(i, p)
		}
	}
	if p := plan.Profile(car(), nil, 0, 0, 21, 21); !slices.Equal(p.Acts, profiled(car(), nil, 0, 0, 20, 20).Acts) || !plan.Same(p, plan.Profile(car(), nil, 0, 0, far, far)) || plan.Same(p, plan.Profile(car(), nil, 0, 0, 19, 20)) || plan.Same(p, plan.Profile(car(), nil, 0, 0, 20, 19)) {
		t.Error(p)
	}
	for i, c := range flawed() {
		if p := plan.Profile(c, []int64{0, 0}, 0, 100, 3, 3); len(p.Acts) > 0 {
			t.Error(i, p)
		}
		if l := plan.Candidates(c, []int64{0, 0}, 0, 100); len(l) > 0 {
			t.Error(i, l)
		}
	}
}

// P7.5: profiles and candidates are as they are written.
func TestProfilesOfAnyCars(t *testing.T) {
	d := &dice{33}
	for i := range 4000 {
		c := d.car()
		v := d.pick(0, 2000, d.roll(0, 2000), d.roll(0, 200), d.roll(-99, 2099))
		last := d.pick(0, d.roll(-c.Brake, c.Accel), d.roll(-200, 200), low, far)
		var queue []int64
		for range d.roll(0, 7) {
			queue = append(queue, d.pick(0, d.roll(-c.Brake, c.Accel), d.roll(-300, 300)))
		}
		up, hold := int(d.roll(-2, 24)), int(d.roll(-2, 24))
		if p := plan.Profile(c, queue, last, v, up, hold); !slices.Equal(p.Acts, profiled(c, queue, last, v, up, hold).Acts) {
			t.Fatal(i, c, queue, last, v, up, hold, p)
		}
		l := plan.Candidates(c, queue, last, v)
		if !slices.EqualFunc(l, profiles(c, queue, last, v), plan.Same) {
			t.Fatal(i, c, queue, last, v, l)
		}
	}
}

// P7.5, R7: the speed behind acts of any size is exact.
func TestProfilesOfGreatNumbers(t *testing.T) {
	d := &dice{34}
	great := func() int64 {
		return d.pick(far, low, far-d.roll(0, 3000), low+d.roll(0, 3000), d.roll(-3000, 3000), 1<<62, -1<<62)
	}
	for i := range 4000 {
		v, queue := great(), []int64{great()}
		for range d.roll(0, 4) {
			queue = append(queue, great())
		}
		u := big.NewInt(v)
		var way int64
		for _, act := range queue {
			u.Add(u, big.NewInt(act))
			if u.Sign() < 0 {
				u.SetInt64(0)
			} else if u.Cmp(big.NewInt(2000)) > 0 {
				u.SetInt64(2000)
			}
			way += u.Int64()
		}
		p := plan.Profile(car(), queue, 0, v, 0, 0)
		if want := slices.Concat(queue, stopped(car(), queue[len(queue)-1], u.Int64())); !slices.Equal(p.Acts, want) {
			t.Fatal(i, queue, v, p)
		}
		if got := plan.Way(ego(0, 0, 0, v), acts(queue...)); got != way {
			t.Fatal(i, queue, v, got, way)
		}
	}
}

// P7.10: what is made of a valid queue is valid.
func TestProfilesAreValid(t *testing.T) {
	d := &dice{35}
	longest := 0
	for i := range 3000 {
		c := d.car()
		if i%10 == 0 {
			c = api.Car{Len: 300, Accel: 30, Brake: 20, Rate: 5}
		}
		last := d.pick(0, c.Accel, -c.Brake, d.roll(-c.Brake, c.Accel))
		queue := d.acts(c, last, d.roll(0, 5))
		v := d.pick(0, 2000, d.roll(0, 2000))
		l := plan.Candidates(c, queue, last, v)
		if len(l) != 8 {
			t.Fatal(i, len(l))
		}
		l = append(l, plan.Profile(c, queue, last, v, int(d.roll(-1, 25)), int(d.roll(-1, 25))), plan.Profile(c, queue, last, v, 20, 20))
		for _, p := range l {
			if e := plan.Check(c, p); e != api.OK || !isPlan(c, p) {
				t.Fatal(i, e, c, queue, last, v, p)
			}
			if first := p.Acts[0]; first-last > c.Rate || last-first > c.Rate {
				t.Fatal(i, c, queue, last, p)
			}
			longest = max(longest, len(p.Acts))
		}
	}
	if longest < 130 {
		t.Error(longest)
	}
}

// P7.7
func TestWay(t *testing.T) {
	for i, x := range []struct {
		v    int64
		p    api.Plan
		want int64
	}{
		{100, acts(-30, -60, -60), 80}, {100, acts(-30, -60), 80}, {100, acts(-30), 70}, {100, acts(), 0}, {0, acts(20, -10, -40), 30}, {0, acts(-60, 20, 20), 60}, {1990, acts(20, 20, -30), 5970},
		{-10, acts(30, 0), 40}, {2100, acts(-50, 0), 4000}, {2100, acts(-150, 0), 3900}, {low, acts(far, far), 2000}, {far, acts(low, far, low), 2000}, {far, acts(far, low), 2000}, {low, acts(low, 5), 5}, {low, acts(-1), 0}, {-1, acts(low), 0}, {far, acts(1), 2000}, {1, acts(far), 2000}, {low, acts(0), 0}, {0, acts(low), 0}, {far, acts(0), 2000}, {0, acts(far), 2000},
		{0, acts(some(100000, 2000)...), 200000000},
	} {
		// The other bounds do not matter.
		for _, e := range []api.Ego{ego(0, 0, 0, x.v), ego(far, low, far, x.v), ego(5, 9, 100, x.v)} {
			if way := plan.Way(e, x.p); way != x.want {
				t.Error(i, way)
			}
		}
	}
}
