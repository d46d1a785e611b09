package cloud

import (
	"kerbstone/api"
	"kerbstone/curve"
)

// Segments returns the segments for a gap, by their first points.
func Segments(l []api.Point, gap int64) ([][]int, api.Errno) {
	if e := Check(l); e != api.OK {
		return nil, e
	}
	if gap < 0 || gap > 2*api.MaxSpot {
		return nil, api.ErrRange
	}
	var segments [][]int
	first := linked(l, gap)
	place := make([]int, len(l))
	for i := range l {
		if first(i) == i {
			place[i] = len(segments)
			segments = append(segments, nil)
		}
		n := place[first(i)]
		segments[n] = append(segments[n], i)
	}
	return segments, api.OK
}

// linked links the points of a cloud, and returns the function that finds the
// first point of the segment in which a point is.
func linked(l []api.Point, gap int64) func(int) int {
	before := make([]int, len(l))
	var root func(int) int
	root = func(i int) int {
		if before[i] != i {
			before[i] = root(before[i])
		}
		return before[i]
	}
	for i, p := range l {
		before[i] = i
		for j, q := range l[:i] {
			if !curve.Sees(spot(p), spot(q), gap) {
				continue
			}
			// The lesser root stays one, so that it is the first point.
			a, b := root(i), root(j)
			before[max(a, b)] = min(a, b)
		}
	}
	return root
}
