package roads

import (
	"slices"

	"kerbstone/api"
	"kerbstone/curve"
)

// Same reports whether two maps are equal in everything.
func Same(a, b api.Map) bool {
	return a.Version == b.Version &&
		slices.EqualFunc(a.Lanes, b.Lanes, sameLane) &&
		slices.EqualFunc(a.Zones, b.Zones, sameZone) &&
		slices.EqualFunc(a.Signals, b.Signals, sameSignal) &&
		slices.EqualFunc(a.Works, b.Works, sameWork)
}

func sameLane(a, b api.Lane) bool {
	return a.Kind == b.Kind && a.Half == b.Half && a.Limit == b.Limit &&
		curve.Same(a.Curve, b.Curve) && slices.Equal(a.Next, b.Next)
}

func sameZone(a, b api.Zone) bool {
	return a.Signal == b.Signal && slices.Equal(a.Parts, b.Parts)
}

func sameSignal(a, b api.Signal) bool {
	return a.Offset == b.Offset && slices.EqualFunc(a.Phases, b.Phases, samePhase)
}

func samePhase(a, b api.Phase) bool {
	return a.Ticks == b.Ticks && slices.Equal(a.Green, b.Green)
}

func sameWork(a, b api.Work) bool {
	return a == b
}

// Copy returns an equal map, in memory of its own.
func Copy(m api.Map) api.Map {
	return api.Map{
		Version: m.Version,
		Lanes:   copies(m.Lanes, copyLane),
		Zones:   copies(m.Zones, copyZone),
		Signals: copies(m.Signals, copySignal),
		Works:   slices.Clone(m.Works),
	}
}

// copies returns copies of all rows.
func copies[R any](rows []R, one func(R) R) []R {
	var l []R
	for _, row := range rows {
		l = append(l, one(row))
	}
	return l
}

func copyLane(l api.Lane) api.Lane {
	l.Curve = curve.Copy(l.Curve)
	l.Next = slices.Clone(l.Next)
	return l
}

func copyZone(z api.Zone) api.Zone {
	z.Parts = slices.Clone(z.Parts)
	return z
}

func copySignal(s api.Signal) api.Signal {
	s.Phases = copies(s.Phases, copyPhase)
	return s
}

func copyPhase(p api.Phase) api.Phase {
	p.Green = slices.Clone(p.Green)
	return p
}
