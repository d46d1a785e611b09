package cloud

import (
	"cmp"
	"iter"

	"kerbstone/api"
)

// Matches returns how many points of b match the shift with this slack.
func Matches(a, b []api.Point, by api.Spot, slack int64) int {
	if Check(a) != api.OK || Check(b) != api.OK || !validWindow(slack) || !validShift(by) {
		return 0
	}
	return matches(a, b, by, slack)
}

// Register returns the best shift that brings b to a, and the number of its
// matches.
func Register(a, b []api.Point, window, slack int64) (api.Spot, int, api.Errno) {
	if e := checkRegister(a, b, window, slack); e != api.OK {
		return api.Spot{}, 0, e
	}
	var best api.Spot
	most := matches(a, b, best, slack)
	for by := range candidates(a, b, window) {
		n := matches(a, b, by, slack)
		if n > most || n == most && simpler(by, best) {
			best, most = by, n
		}
	}
	return best, most, api.OK
}

// checkRegister returns why b cannot be registered on a.
func checkRegister(a, b []api.Point, window, slack int64) api.Errno {
	if e := Check(a); e != api.OK {
		return e
	}
	if e := Check(b); e != api.OK {
		return e
	}
	if len(a) > api.MaxShape || len(b) > api.MaxShape {
		return api.ErrFull
	}
	if !validWindow(window) || !validWindow(slack) {
		return api.ErrRange
	}
	return api.OK
}

// candidates goes through the shifts within the window that bring a point of b
// to one of a.
func candidates(a, b []api.Point, window int64) iter.Seq[api.Spot] {
	return func(yield func(api.Spot) bool) {
		for _, p := range a {
			for _, q := range b {
				by := api.Spot{X: p.X - q.X, Y: p.Y - q.Y}
				if agree(by, api.Spot{}, window) && !yield(by) {
					return
				}
			}
		}
	}
}

// matches returns how many points of b match the shift.
func matches(a, b []api.Point, by api.Spot, slack int64) int {
	n := 0
	for _, q := range b {
		place := moved(q, by)
		for _, p := range a {
			if agree(place, spot(p), slack) {
				n++
				break
			}
		}
	}
	return n
}

// simpler reports whether a shift goes before another one with as many matches.
func simpler(v, w api.Spot) bool {
	return cmp.Or(cmp.Compare(steps(v), steps(w)), compare(v, w)) < 0
}

// steps returns the sum of the absolute coordinates.
func steps(v api.Spot) int64 {
	return distance(v.X, 0) + distance(v.Y, 0)
}

// agree reports whether p and q differ by at most the slack, in each
// coordinate.
func agree(p, q api.Spot, slack int64) bool {
	return distance(p.X, q.X) <= slack && distance(p.Y, q.Y) <= slack
}

func distance(a, b int64) int64 {
	return max(a-b, b-a)
}

func validWindow(n int64) bool {
	return n >= 0 && n <= api.MaxWindow
}
