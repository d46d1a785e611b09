package drive

import (
	"slices"

	"kerbstone/api"
	"kerbstone/track"
)

// The kinds of readings, in the order in which those of a tick are fused.
const (
	ofSpeed = iota
	ofPlace
	ofView
)

// reading is a measurement of one of the kinds: a mark or a scan.
type reading struct {
	kind int
	mark api.Mark
	scan api.Scan
}

// readings returns copies of all that was measured.
func readings(input api.Input) []reading {
	var l []reading
	for _, x := range input.Speeds {
		l = append(l, reading{kind: ofSpeed, mark: x})
	}
	for _, x := range input.Fixes {
		l = append(l, reading{kind: ofPlace, mark: x})
	}
	for _, x := range input.Scans {
		x.Seen, x.Points = slices.Clone(x.Seen), slices.Clone(x.Points)
		l = append(l, reading{kind: ofView, scan: x})
	}
	return l
}

// stamp returns the tick at which it was measured.
func (r reading) stamp() int64 {
	if r.kind == ofView {
		return r.scan.Stamp
	}
	return r.mark.Stamp
}

// with returns what is known with a reading; false, if the world contradicts
// what was known.
func (c *computer) with(k api.Know, r reading) (api.Know, bool) {
	switch r.kind {
	case ofSpeed:
		return track.Speed(k, r.mark)
	case ofPlace:
		k, ok := track.Fix(k, r.mark)
		return c.own(k), ok
	default:
		k = c.own(track.Update(c.Map, k, r.scan))
		return k, track.Explained(c.Map, k, r.scan.Points)
	}
}

// own returns what is known, without what is the vehicle's own.
func (c *computer) own(k api.Know) api.Know {
	return track.Own(c.Map, c.Route, c.Car.Len, k)
}
