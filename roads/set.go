package roads

import (
	"math/bits"

	"kerbstone/api"
)

// set is a set of lanes: its bit n tells whether the lane n is in it.
type set uint32

// setOf returns the set of lanes with these numbers.
func setOf(lanes []int) set {
	var s set
	for _, lane := range lanes {
		s |= 1 << lane
	}
	return s
}

// has reports whether the lane is in the set, for any number: a shift by too
// much leaves no bit.
func (s set) has(lane int) bool {
	return lane >= 0 && s&(1<<lane) != 0
}

// in reports whether all lanes of s are in t.
func (s set) in(t set) bool {
	return s&^t == 0
}

// count returns how many lanes are in the set.
func (s set) count() int {
	return bits.OnesCount32(uint32(s))
}

// list returns the lanes of the set, ascending.
func (s set) list() []int {
	var lanes []int
	for lane := range api.MaxLanes {
		if s.has(lane) {
			lanes = append(lanes, lane)
		}
	}
	return lanes
}
