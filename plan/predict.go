package plan

import (
	"iter"

	"kerbstone/api"
	"kerbstone/track"
)

// forecast is how something that is known goes on while the vehicle does the
// acts of a plan.
type forecast struct {
	m       api.Map
	route   []int
	size    int64
	signals bool
	// e is why a step could not be made.
	e api.Errno
}

// Predict returns what is predicted after each of the first n acts of a plan.
func Predict(m api.Map, route []int, c api.Car, k api.Know, p api.Plan, n int, signals bool) ([]api.Know, api.Errno) {
	if e := CheckCar(c); e != api.OK {
		return nil, e
	}
	if !within(n, 0, api.MaxActs) {
		return nil, api.ErrRange
	}
	f := &forecast{m: m, route: route, size: c.Len, signals: signals}
	var l []api.Know
	for after := range f.steps(k, p, n) {
		l = append(l, after)
	}
	if f.e != api.OK {
		return nil, f.e
	}
	return l, api.OK
}

// steps goes through the first n acts of a plan, and yields what is known after
// each of them, and what somebody may have passed in it. It ends with the first
// error.
func (f *forecast) steps(k api.Know, p api.Plan, n int) iter.Seq2[api.Know, []api.Sweep] {
	return func(yield func(api.Know, []api.Sweep) bool) {
		now := k
		for i := range n {
			next, sweeps, e := track.Step(f.m, f.route, f.size, now, Act(p, i), f.signals)
			if f.e = e; e != api.OK || !yield(next, sweeps) {
				return
			}
			now = next
		}
	}
}
