package plan

import "kerbstone/api"

// What counts of a profile.
const (
	maxQueue = 5
	maxRamps = 20
)

// course is the acts of a plan as they are put together, with the acceleration
// and the speed behind them.
type course struct {
	car    api.Car
	acts   []int64
	act, v int64
}

// Ramp returns the acceleration after a tick in which it goes from a towards w.
func Ramp(c api.Car, a, w int64) int64 {
	if CheckCar(c) != api.OK {
		return 0
	}
	return ramp(c, a, w)
}

func ramp(c api.Car, a, w int64) int64 {
	a = clamp(a, -c.Brake, c.Accel)
	return clamp(w, max(a-c.Rate, -c.Brake), min(a+c.Rate, c.Accel))
}

// Stops returns the acts of a stop from an acceleration and a speed.
func Stops(c api.Car, a, v int64) []int64 {
	if CheckCar(c) != api.OK {
		return nil
	}
	r := &course{car: c, act: a, v: v}
	r.stop()
	return r.acts
}

// Profile returns the plan that first has the acts of a queue, then speeds up,
// then goes on, and then stops.
func Profile(c api.Car, queue []int64, last, v int64, up, hold int) api.Plan {
	if CheckCar(c) != api.OK {
		return api.Plan{}
	}
	r := &course{car: c, act: last, v: v}
	for _, act := range queue[:min(len(queue), maxQueue)] {
		r.do(act)
	}
	r.ramp(c.Accel, up)
	r.ramp(0, hold)
	r.stop()
	return api.Plan{Acts: r.acts}
}

// Candidates returns the plans among which a search looks for the next one,
// those that speed up most before the others.
func Candidates(c api.Car, queue []int64, last, v int64) []api.Plan {
	if CheckCar(c) != api.OK {
		return nil
	}
	var l []api.Plan
	for _, times := range [...][2]int{{6, 4}, {6, 0}, {3, 4}, {3, 0}, {1, 4}, {1, 0}, {0, 4}, {0, 0}} {
		l = append(l, Profile(c, queue, last, v, times[0], times[1]))
	}
	return l
}

// do appends an act.
func (r *course) do(act int64) {
	r.acts = append(r.acts, act)
	r.act, r.v = act, faster(r.v, act)
}

// ramp appends so many acts that ramp towards an acceleration.
func (r *course) ramp(wanted int64, times int) {
	for range clamp(times, 0, maxRamps) {
		r.do(ramp(r.car, r.act, wanted))
	}
}

// stop appends the acts of a stop. It ends, since the acceleration comes to the
// full braking.
func (r *course) stop() {
	// Before the first act the speed may be any number.
	r.v = clamp(r.v, 0, topSpeed)
	r.ramp(-r.car.Brake, 1)
	// An act above 0 leaves a speed above 0, so that the speed alone tells when
	// both have ended.
	for r.v > 0 {
		r.ramp(-r.car.Brake, 1)
	}
}
