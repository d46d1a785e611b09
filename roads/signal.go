package roads

import (
	"slices"

	"kerbstone/api"
)

// Green reports whether a lane is green for a signal at a tick.
func Green(m api.Map, signal, lane int, tick int64) bool {
	if Check(m) != api.OK || signal < 0 || signal >= len(m.Signals) {
		return false
	}
	return tick >= 0 && green(m.Signals[signal], lane, tick)
}

// Red returns the red lines of a lane at a tick, ascending.
func Red(m api.Map, lane int, tick int64) []int64 {
	if Check(m) != api.OK || tick < 0 {
		return nil
	}
	var lines []int64
	for _, z := range m.Zones {
		k := partOn(z, lane)
		if k >= 0 && z.Signal > 0 && !green(m.Signals[z.Signal-1], lane, tick) {
			lines = append(lines, z.Parts[k].From)
		}
	}
	slices.Sort(lines)
	return slices.Compact(lines)
}

// green reports whether a lane is green for a signal at a tick that is not
// below 0.
func green(s api.Signal, lane int, tick int64) bool {
	var cycle int64
	for _, p := range s.Phases {
		cycle += p.Ticks
	}
	// The sum of both may be greater than an int64 can hold.
	left := (s.Offset%cycle + tick%cycle) % cycle
phases:
	for _, p := range s.Phases {
		if left >= p.Ticks {
			left -= p.Ticks
			continue phases
		}
		return slices.Contains(p.Green, lane)
	}
	return false
}
