package drive

import (
	"kerbstone/api"
)

// past is what is remembered of a tick: what is known there without the
// measurements of this tick or later ones, and the act that was done in it.
type past struct {
	know api.Know
	act  int64
}

// memory is what is remembered of the last ticks, as far back as a measurement
// may come from.
type memory struct {
	ring  [api.MaxLate + 1]past
	count int
}

// begin forgets all, and remembers what is known at a tick.
func (m *memory) begin(k api.Know) {
	*m = memory{count: 1}
	m.ring[0].know = k
}

// ticks returns what is remembered of each tick, the last one being the current
// one.
func (m *memory) ticks() []past {
	return m.ring[:m.count]
}

// first returns the first tick that is remembered.
func (m *memory) first() int64 {
	return m.ring[0].know.Tick
}

// at returns what is remembered of a tick.
func (m *memory) at(tick int64) *past {
	return &m.ticks()[tick-m.first()]
}

// next remembers the act of the current tick, and what is known at the next
// one. The oldest tick makes room for it.
func (m *memory) next(act int64, k api.Know) {
	l := m.ticks()
	l[len(l)-1].act = act
	if m.count == len(m.ring) {
		copy(l, l[1:])
		m.count--
	}
	m.count++
	m.at(k.Tick).know = k
}
