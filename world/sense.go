package world

import (
	"kerbstone/api"
	"kerbstone/curve"
)

// The greatest errors of the sensors: of a point and its speed, and of the
// speed and the place of the vehicle.
const (
	pointError = 50
	rateError  = 5
	speedError = 3
	placeError = 200
)

// gap is the distance of points on a body.
const gap = 500

// Sense returns what the sensors of the vehicle measure.
func Sense(m api.Map, s api.State, view int64, noise []int64) api.Scan {
	w, ok := lookFar(m, s, view)
	if !ok {
		return api.Scan{}
	}
	scan := api.Scan{Stamp: s.Tick, Seen: w.seen(view)}
	next := taker(noise)
	for _, span := range scan.Seen {
		for i := 1; i < len(s.Agents); i++ {
			if !There(s, i) {
				continue
			}
			for _, offset := range w.hits(i, span) {
				p := curve.At(m.Lanes[span.Lane].Curve, offset)
				scan.Points = append(scan.Points, api.Point{
					X: p.X + next(pointError),
					Y: p.Y + next(pointError),
					V: s.Agents[i].V + next(rateError),
				})
			}
		}
	}
	return scan
}

// hits returns the offsets of the points that an agent has in a span.
func (w *scene) hits(agent int, span api.Span) []int64 {
	var points []int64
	for _, part := range w.bodies[agent] {
		both := offsets(part).common(offsets(span))
		if part.Lane != span.Lane || both == nothing {
			continue
		}
		for offset := both.lo; offset < both.hi; offset += gap {
			points = append(points, offset)
		}
		points = append(points, both.hi)
	}
	return points
}

// taker returns a function that makes an error, which is at most as great as
// it is told, of the next number of noise: 0, if there is none left.
func taker(noise []int64) func(most int64) int64 {
	taken := 0
	return func(most int64) int64 {
		if taken == len(noise) {
			return 0
		}
		taken++
		return wrongBy(noise[taken-1], most)
	}
}

// wrongBy returns the error, from -most to most, that a number of noise makes.
func wrongBy(noise, most int64) int64 {
	count := 2*most + 1
	return (noise%count+count)%count - most
}

// Speed returns the measured speed of the vehicle.
func Speed(s api.State, noise int64) api.Mark {
	if !measurable(s) {
		return api.Mark{}
	}
	measured := mark(s.Tick, s.Agents[0].V, noise, speedError)
	measured.Lo = max(0, measured.Lo)
	return measured
}

// Fix returns the measured place of the vehicle. Unlike a speed, a place may be
// measured below 0: the mark is as wide near the start of the route as elsewhere.
func Fix(s api.State, noise int64) api.Mark {
	if !measurable(s) {
		return api.Mark{}
	}
	return mark(s.Tick, s.Agents[0].S, noise, placeError)
}

// measurable reports whether the vehicle has a speed and a place that can be
// measured.
func measurable(s api.State) bool {
	ticks := interval{lo: 0, hi: api.MaxTick}
	return len(s.Agents) > 0 && ticks.holds(s.Agents[0].V) && ticks.holds(s.Agents[0].S)
}

// mark returns the mark of something that is measured with this greatest error.
func mark(tick, truth, noise, most int64) api.Mark {
	x := truth + wrongBy(noise, most)
	return api.Mark{Stamp: tick, Lo: x - most, Hi: x + most}
}
