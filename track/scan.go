package track

import (
	"slices"

	"kerbstone/api"
	"kerbstone/curve"
)

// How wrong a scan may be, and what it may leave out.
const (
	footError  = 100
	speedError = 5
	pointGap   = 500
)

// Found returns the parts of the lanes in which points were found.
func Found(m api.Map, points []api.Point) []api.Found {
	g, e := survey(m)
	if e != api.OK {
		return nil
	}
	return each(g.found(points), func(h hit) api.Found { return api.Found(h) })
}

// found returns the parts of the lanes in which points were found.
func (g *ground) found(points []api.Point) []hit {
	var l []hit
	for _, p := range counting(points) {
		for _, f := range g.feet(p) {
			l = append(l, hit{Lane: f.Lane, Lo: f.From, Hi: f.To, VLo: max(0, p.V-speedError), VHi: p.V + speedError})
		}
	}
	return joined(l, pointGap)
}

// counting returns the points that count.
func counting(points []api.Point) []api.Point {
	var l []api.Point
	for _, p := range points[:min(len(points), api.MaxPoints)] {
		if p.V >= -speedError && p.V <= topSpeed+speedError {
			l = append(l, p)
		}
	}
	return l
}

// feet returns the offsets for which the feet of a point stand.
func (g *ground) feet(p api.Point) []api.Span {
	var l []api.Span
	for i, lane := range g.lanes {
		for _, f := range curve.Near(g.m.Lanes[i].Curve, api.Spot{X: p.X, Y: p.Y}, footError) {
			l = append(l, api.Span{Lane: i, From: max(0, f-footError), To: min(lane.length, f+footError)})
		}
	}
	return l
}

// Free returns the parts of the lanes that were seen, and in which nobody was
// found.
func Free(m api.Map, seen []api.Span, found []api.Found) []api.Span {
	g, e := survey(m)
	if e != api.OK {
		return nil
	}
	hits := each(found, func(f api.Found) hit { return hit(f) })
	return each(cut(g.seen(seen), holes(g, hits)), stretch.span)
}

// seen returns the parts of the lanes that were seen, joined.
func (g *ground) seen(spans []api.Span) []stretch {
	return holes(g, each(spans, func(s api.Span) stretch { return stretch(s) }))
}

// holes returns the spans of values, joined, without those that are not on a
// lane.
func holes[T spanned](g *ground, l []T) []stretch {
	var spans []stretch
	for _, x := range l {
		if g.has(x.span()) {
			spans = append(spans, stretch(x.span()))
		}
	}
	return joined(spans, 1)
}

// Update returns what is known with a scan of its tick.
func Update(m api.Map, k api.Know, scan api.Scan) api.Know {
	g, e := look(m, k)
	if e != api.OK || scan.Stamp != k.Tick {
		return Copy(k)
	}
	seen, hits := g.seen(scan.Seen), g.found(scan.Points)
	var left []blob
	for _, b := range cut(blobs(k.Blobs), cut(seen, holes(g, hits))) {
		if isSeen(b, seen) {
			b = b.narrowed(meeting(hits, b.span()))
		}
		if b.VLo <= b.VHi {
			left = append(left, b)
		}
	}
	k.Blobs = plain(left)
	return k
}

// isSeen reports whether all of a blob was seen.
func isSeen(b blob, seen []stretch) bool {
	return slices.ContainsFunc(meeting(seen, b.span()), func(s stretch) bool { return s.From <= b.Lo && s.To >= b.Hi })
}

// narrowed returns a blob with the speeds of those who were found on it: there
// are some, since it was seen, but is not free.
func (b blob) narrowed(hits []hit) blob {
	all := hits[0]
	for _, h := range hits {
		all = all.with(h)
	}
	b.VLo, b.VHi = max(b.VLo, all.VLo), min(b.VHi, all.VHi)
	return b
}

// Explained reports whether each point may come from somebody who is known.
func Explained(m api.Map, k api.Know, points []api.Point) bool {
	g, e := survey(m)
	if e != api.OK {
		return false
	}
	known := joined(blobs(k.Blobs), 1)
	for _, p := range counting(points) {
		if !slices.ContainsFunc(g.feet(p), func(s api.Span) bool { return len(meeting(known, s)) > 0 }) {
			return false
		}
	}
	return true
}
