package track_test

import (
	"slices"

	"kerbstone/api"
	"kerbstone/curve"
	"kerbstone/roads"
)

// The terms of the chapter, computed as plainly as they are written there.

// length returns the length of a lane.
func length(m api.Map, lane int) int64 { return curve.Length(m.Lanes[lane].Curve) }

// at returns the place of an offset.
func at(c api.Curve, s int64) api.Spot { return curve.At(c, s) }

// bounds returns the greatest speed on a lane.
func bounds(m api.Map, lane int) int64 {
	return []int64{0, 2000, 1000, 300}[m.Lanes[lane].Kind]
}

// before returns the predecessors of a lane.
func before(m api.Map, lane int) []int {
	var l []int
	for i, x := range m.Lanes {
		if slices.Contains(x.Next, lane) {
			l = append(l, i)
		}
	}
	return l
}

// start returns where a lane starts in a route, -1 if it is not there.
func start(m api.Map, route []int, lane int) int64 {
	var sum int64
	for _, l := range route {
		if l == lane {
			return sum
		}
		sum += length(m, l)
	}
	return -1
}

// total returns the length of a route.
func total(m api.Map, route []int) int64 {
	last := route[len(route)-1]
	return start(m, route, last) + length(m, last)
}

// join returns blobs, joined two by two.
func join(l []api.Blob) []api.Blob {
	l = slices.DeleteFunc(slices.Clone(l), func(b api.Blob) bool { return b.Lo > b.Hi })
	for i := 0; i < len(l); i++ {
		for k := 0; k < i; k++ {
			a, b := l[i], l[k]
			if a.Lane != b.Lane || a.Lo-1 > b.Hi || b.Lo-1 > a.Hi {
				continue
			}
			c := api.Blob{Lane: a.Lane, Lo: min(a.Lo, b.Lo), Hi: max(a.Hi, b.Hi), VLo: min(a.VLo, b.VLo), VHi: max(a.VHi, b.VHi), Hold: max(a.Hold, b.Hold)}
			if a.Hold == 0 || b.Hold == 0 {
				c.Hold = 0
			}
			l = append(slices.Delete(slices.Delete(l, i, i+1), k, k+1), c)
			i, k = -1, 0
			break
		}
	}
	slices.SortFunc(l, func(a, b api.Blob) int {
		if a.Lane != b.Lane {
			return a.Lane - b.Lane
		}
		return int(a.Lo - b.Lo)
	})
	return l
}

// own returns blobs without the offsets of the vehicle, offset by offset.
func own(m api.Map, route []int, size int64, k api.Know) []api.Blob {
	starts := map[int]int64{}
	for lane := range m.Lanes {
		starts[lane] = start(m, route, lane)
	}
	return without(k.Blobs, func(lane int, offset int64) bool {
		from := starts[lane]
		return from >= 0 && offset+from >= k.Ego.SHi-size && offset+from <= k.Ego.SLo
	})
}

// without returns what is left of blobs without some offsets.
func without(l []api.Blob, gone func(lane int, offset int64) bool) []api.Blob {
	var left []api.Blob
	for _, b := range l {
		open := false
		for s := b.Lo; s <= b.Hi; s++ {
			switch {
			case gone(b.Lane, s):
				open = false
			case open:
				left[len(left)-1].Hi = s
			default:
				open = true
				c := b
				c.Lo, c.Hi = s, s
				left = append(left, c)
			}
		}
	}
	return left
}

// driven returns the vehicle after a tick.
func driven(m api.Map, route []int, e api.Ego, act int64) api.Ego {
	most, up, down := roads.Bounds(m.Lanes[route[0]].Kind)
	if act > up {
		act = up
	}
	if act < -down {
		act = -down
	}
	then := func(v int64) int64 {
		if v += act; v < 0 {
			return 0
		} else if v > most {
			return most
		}
		return v
	}
	e.VLo, e.VHi = then(e.VLo), then(e.VHi)
	e.SLo += e.VLo
	e.SHi += e.VHi
	return e
}

// stop adds up what is left of a speed.
func stop(v, b int64) int64 {
	var sum int64
	for k := int64(1); v-k*b > 0; k++ {
		sum += v - k*b
	}
	return sum
}

// moved returns a blob after a step, and its new Lo and Hi on a lane without
// an end.
func moved(r ride, b api.Blob) api.Blob {
	most, up, down := roads.Bounds(r.m.Lanes[b.Lane].Kind)
	to := api.Blob{Lane: b.Lane, VLo: max(0, b.VLo-down), VHi: min(most, b.VHi+up)}
	if to.Lo = b.Lo + to.VLo; b.Lo == 0 && len(before(r.m, b.Lane)) == 0 {
		to.Lo = 0
	}
	to.Hi = b.Hi + to.VHi
	for _, line := range roads.Red(r.m, b.Lane, r.k.Tick) {
		stops := b.Hi+stop(b.VHi, down) < line
		held := b.Hold != 0 && b.Hold <= line
		if r.signals && to.Hold == 0 && line > b.Hi && (stops || held) {
			to.Hi, to.Hold = min(to.Hi, line-1), line
		}
	}
	return to
}

// place is somewhere on a way: a lane, how far before it the way began, and the
// cap, if there is one.
type place struct {
	lane   int
	passed int64
	capped bool
}

// laid goes along all ways from the lane of a blob, and returns its parts, and
// which of them have a cap.
func laid(r ride, to, b api.Blob) ([]api.Blob, []bool) {
	after := driven(r.m, r.route, r.k.Ego, r.act)
	barrier := after.SHi - r.size - 1
	on := func(lane int) bool { return slices.Contains(r.route, lane) }
	rear := r.k.Ego.SHi - r.size
	first := place{b.Lane, 0, on(b.Lane) && rear <= r.k.Ego.SLo && start(r.m, r.route, b.Lane)+b.Hi < rear}
	var l []api.Blob
	var caps []bool
	for todo := []place{first}; len(todo) > 0; todo = todo[1:] {
		p := todo[0]
		lo, hi, n := to.Lo-p.passed, to.Hi-p.passed, length(r.m, p.lane)
		part := to
		part.Lane, part.Lo, part.Hi = p.lane, max(0, lo), min(hi, n)
		if p.capped {
			part.Hi = min(part.Hi, barrier-start(r.m, r.route, p.lane))
		}
		if p.passed > 0 {
			part.Hold = 0
		}
		if lo <= n && part.Lo <= part.Hi {
			l, caps = append(l, part), append(caps, p.capped)
		}
		if hi < n {
			continue
		}
		for _, next := range r.m.Lanes[p.lane].Next {
			q := place{next, p.passed + n, false}
			i := slices.Index(r.route, p.lane)
			if i >= 0 && i+1 < len(r.route) && r.route[i+1] == next {
				q.capped = p.capped
			} else if on(next) {
				q.capped = after.SLo >= start(r.m, r.route, next)
			}
			todo = append(todo, q)
		}
	}
	return l, caps
}

// stepped returns what is known after the step of a ride, and the sweeps.
func stepped(r ride) (api.Know, []api.Sweep) {
	to := api.Know{Tick: r.k.Tick + 1, Ego: driven(r.m, r.route, r.k.Ego, r.act)}
	var l []api.Blob
	var sweeps []api.Sweep
	for _, b := range own(r.m, r.route, r.size, r.k) {
		then := moved(r, b)
		if then.Lo > then.Hi {
			continue
		}
		parts, _ := laid(r, then, b)
		l = append(l, parts...)
		then.Lo = b.Lo
		parts, caps := laid(r, then, b)
		for i, p := range parts {
			s := sweep(p.Lane, p.Lo, p.Hi, caps[i] && slices.Contains(r.route, p.Lane))
			if !slices.Contains(sweeps, s) {
				sweeps = append(sweeps, s)
			}
		}
	}
	for lane := range r.m.Lanes {
		if len(before(r.m, lane)) == 0 && (lane != r.route[0] || to.Ego.SHi-r.size-1 >= 0) {
			l = append(l, blob(lane, 0, 0, 0, bounds(r.m, lane)))
		}
	}
	to.Blobs = join(l)
	to.Blobs = own(r.m, r.route, r.size, to)
	slices.SortFunc(sweeps, func(a, b api.Sweep) int {
		switch {
		case a.Lane != b.Lane:
			return a.Lane - b.Lane
		case a.From != b.From:
			return int(a.From - b.From)
		case a.To != b.To:
			return int(a.To - b.To)
		case b.Behind:
			return -1
		}
		return 1
	})
	return to, sweeps
}

// feet returns the offsets for which a point stands on a lane.
func feet(m api.Map, lane int, p api.Point) []api.Span {
	var l []api.Span
	for _, f := range curve.Near(m.Lanes[lane].Curve, api.Spot{X: p.X, Y: p.Y}, 100) {
		l = append(l, span(lane, max(0, f-100), min(length(m, lane), f+100)))
	}
	return l
}

// counted returns the points that count.
func counted(points []api.Point) []api.Point {
	var l []api.Point
	for i, p := range points {
		if i < 1000 && p.V >= -5 && p.V <= 2005 {
			l = append(l, p)
		}
	}
	return l
}

// found returns where points are found, taken together two by two.
func found(m api.Map, points []api.Point) []api.Found {
	var all []api.Found
	for lane := range m.Lanes {
		var l []api.Found
		for _, p := range counted(points) {
			for _, s := range feet(m, lane, p) {
				x := api.Found{Lane: lane, Lo: s.From, Hi: s.To, VLo: max(0, p.V-5), VHi: p.V + 5}
				for again := true; again; {
					again = false
					for i, y := range l {
						if x.Lo-y.Hi <= 500 && y.Lo-x.Hi <= 500 {
							x = api.Found{Lane: lane, Lo: min(x.Lo, y.Lo), Hi: max(x.Hi, y.Hi), VLo: min(x.VLo, y.VLo), VHi: max(x.VHi, y.VHi)}
							l, again = slices.Delete(l, i, i+1), true
							break
						}
					}
				}
				l = append(l, x)
			}
		}
		slices.SortFunc(l, func(a, b api.Found) int { return int(a.Lo - b.Lo) })
		all = append(all, l...)
	}
	return all
}

// isOn reports whether a span is on a lane.
func isOn(m api.Map, s api.Span) bool {
	return s.Lane >= 0 && s.Lane < len(m.Lanes) && s.From >= 0 && s.From <= s.To && s.To <= length(m, s.Lane)
}

// marked returns for each offset of a lane whether one of the spans has it.
func marked(m api.Map, lane int, spans []api.Span) []bool {
	l := make([]bool, length(m, lane)+1)
	for _, s := range spans {
		if s.Lane == lane && isOn(m, s) {
			for i := s.From; i <= s.To; i++ {
				l[i] = true
			}
		}
	}
	return l
}

// spansOf returns the spans of what was found.
func spansOf(l []api.Found) []api.Span {
	var s []api.Span
	for _, f := range l {
		s = append(s, span(f.Lane, f.Lo, f.Hi))
	}
	return s
}

// free returns what was seen and not found, offset by offset.
func free(m api.Map, seen []api.Span, hits []api.Found) []api.Span {
	var l []api.Span
	for lane := range m.Lanes {
		yes, no := marked(m, lane, seen), marked(m, lane, spansOf(hits))
		for i := range yes {
			s := int64(i)
			if !yes[i] || no[i] {
				continue
			}
			if n := len(l); n > 0 && l[n-1].Lane == lane && l[n-1].To == s-1 {
				l[n-1].To = s
				continue
			}
			l = append(l, span(lane, s, s))
		}
	}
	return l
}

// updated returns what is known with a scan.
func updated(m api.Map, k api.Know, x api.Scan) api.Know {
	hits := found(m, x.Points)
	gone := map[int][]bool{}
	seen := map[int][]bool{}
	for lane := range m.Lanes {
		gone[lane] = marked(m, lane, free(m, x.Seen, hits))
		seen[lane] = marked(m, lane, x.Seen)
	}
	to := api.Know{Tick: k.Tick, Ego: k.Ego}
	for _, b := range without(k.Blobs, func(lane int, s int64) bool { return gone[lane][s] }) {
		all := true
		for s := b.Lo; s <= b.Hi; s++ {
			all = all && seen[b.Lane][s]
		}
		if all {
			least, most := int64(far), int64(low)
			for _, f := range hits {
				if f.Lane == b.Lane && f.Lo <= b.Hi && f.Hi >= b.Lo {
					least, most = min(least, f.VLo), max(most, f.VHi)
				}
			}
			b.VLo, b.VHi = max(b.VLo, least), min(b.VHi, most)
		}
		if b.VLo <= b.VHi {
			to.Blobs = append(to.Blobs, b)
		}
	}
	return to
}

// explained reports whether each point may come from somebody.
func explained(m api.Map, k api.Know, points []api.Point) bool {
	for _, p := range counted(points) {
		ok := false
		for lane := range m.Lanes {
			for _, s := range feet(m, lane, p) {
				for _, b := range k.Blobs {
					for i := s.From; i <= s.To; i++ {
						ok = ok || b.Lane == lane && b.Lo <= i && i <= b.Hi
					}
				}
			}
		}
		if !ok {
			return false
		}
	}
	return true
}
