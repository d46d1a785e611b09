package world

import (
	"kerbstone/api"
	"kerbstone/curve"
	"kerbstone/roads"
)

// sight is what the sensors of the vehicle look at: from where, how far, and
// past whom.
type sight struct {
	m    api.Map
	eye  api.Spot
	view int64
	bars []bar
}

// bar is somebody past whom the sensors look, from the front to the rear.
type bar struct {
	front, rear api.Spot
	body        []api.Span
}

// Seen returns what the sensors see of the lanes.
func Seen(m api.Map, s api.State, view int64) []api.Span {
	w, ok := lookFar(m, s, view)
	if !ok {
		return nil
	}
	return w.seen(view)
}

// lookFar returns the scene of a state, if the state and the view are valid.
func lookFar(m api.Map, s api.State, view int64) (*scene, bool) {
	w, e := look(m, s)
	return w, e == api.OK && view >= 0 && view <= api.MaxSpot
}

// seen returns what the sensors see of the lanes.
func (w *scene) seen(view int64) []api.Span {
	x := w.sight(view)
	var spans []api.Span
	for lane := range w.m.Lanes {
		spans = append(spans, x.lane(lane)...)
	}
	return spans
}

// sight returns what the sensors look at.
func (w *scene) sight(view int64) sight {
	x := sight{m: w.m, eye: w.trails[0].spot(w.s.Agents[0].S), view: view}
	for i, a := range w.s.Agents {
		if i == 0 || !There(w.s, i) {
			continue
		}
		t := w.trails[i]
		x.bars = append(x.bars, bar{front: t.spot(a.S), rear: t.spot(a.S - a.Len), body: w.bodies[i]})
	}
	return x
}

// lane returns the spans of a lane that are seen.
func (x sight) lane(lane int) []api.Span {
	var spans []api.Span
	length := roads.Length(x.m, lane)
	for from := int64(0); from < length; from += api.Cell {
		cell := interval{lo: from, hi: min(from+api.Cell, length)}
		if !x.sees(lane, cell) {
			continue
		}
		if last := len(spans) - 1; last >= 0 && spans[last].To == cell.lo {
			spans[last].To = cell.hi
			continue
		}
		spans = append(spans, api.Span{Lane: lane, From: cell.lo, To: cell.hi})
	}
	return spans
}

// sees reports whether a cell is seen.
func (x sight) sees(lane int, cell interval) bool {
	for _, offset := range [...]int64{cell.lo, cell.hi} {
		p := curve.At(x.m.Lanes[lane].Curve, offset)
		if !curve.Sees(x.eye, p, x.view) {
			return false
		}
		for _, b := range x.bars {
			if curve.Blocks(x.eye, p, b.front, b.rear) && !touches(b.body, lane, cell) {
				return false
			}
		}
	}
	return true
}
