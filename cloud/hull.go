package cloud

import (
	"iter"
	"slices"

	"kerbstone/api"
	"kerbstone/curve"
)

// Hull returns the corners of the least convex polygon that contains all
// points, against the clock, from the least one on.
func Hull(l []api.Point) []api.Spot {
	if Check(l) != api.OK {
		return nil
	}
	var h []api.Spot
	for p := range corners(l) {
		h = append(h, p)
	}
	return h
}

// corners goes through the corners of the hull of a valid cloud: along the
// lower side to the greatest one, and along the upper side back.
func corners(l []api.Point) iter.Seq[api.Spot] {
	return func(yield func(api.Spot) bool) {
		spots := places(l)
		if len(spots) == 1 {
			yield(spots[0])
			return
		}
		for range 2 {
			side := chain(spots)
			for i := range len(side) - 1 {
				if !yield(side[i]) {
					return
				}
			}
			slices.Reverse(spots)
		}
	}
}

// places returns the spots of all points, each one once, in order.
func places(l []api.Point) []api.Spot {
	var spots []api.Spot
	for _, p := range l {
		spots = append(spots, spot(p))
	}
	slices.SortFunc(spots, compare)
	return slices.Compact(spots)
}

// chain returns the corners of the way from the first spot to the last one
// that has no spot to its right, for spots in order, or in the reverse one.
func chain(spots []api.Spot) []api.Spot {
	var way []api.Spot
	for _, p := range spots {
		for n := len(way); n > 1 && curve.Side(way[n-2], way[n-1], p) <= 0; n-- {
			way = way[:n-1]
		}
		way = append(way, p)
	}
	return way
}

// Area2 returns twice the area of the polygon with the corners h.
func Area2(h []api.Spot) int64 {
	if len(h) < 3 || !validCorners(h) {
		return 0
	}
	var sum int64
	for i, p := range h {
		q := next(h, i)
		sum += p.X*q.Y - p.Y*q.X
	}
	return sum
}

// Inside reports whether p is inside the hull h, or on its border.
func Inside(h []api.Spot, p api.Spot) bool {
	if len(h) == 0 || !validCorners(h) || !validSpots(p) {
		return false
	}
	if len(h) <= 2 {
		// A single corner is a segment from it to itself.
		return curve.Blocks(h[0], next(h, 0), p, p)
	}
	for i, q := range h {
		if curve.Side(q, next(h, i), p) < 0 {
			return false
		}
	}
	return true
}

// next returns the corner behind the corner i: behind the last one comes the
// first one.
func next(h []api.Spot, i int) api.Spot {
	return h[(i+1)%len(h)]
}

// validCorners reports whether there are not too many corners, and all are
// valid.
func validCorners(h []api.Spot) bool {
	return len(h) <= api.MaxPoints && validSpots(h...)
}
