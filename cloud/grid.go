package cloud

import (
	"slices"
	"sort"

	"kerbstone/api"
)

// Index returns a bucket for each cell that has points, by X, then Y of the
// cells.
func Index(l []api.Point, size int64) ([]api.Bucket, api.Errno) {
	if e := checkGrid(l, size); e != api.OK {
		return nil, e
	}
	points := map[api.Spot][]int{}
	for i, p := range l {
		c := cell(p, size)
		points[c] = append(points[c], i)
	}
	var cells []api.Spot
	for c := range points {
		cells = append(cells, c)
	}
	slices.SortFunc(cells, compare)
	var buckets []api.Bucket
	for _, c := range cells {
		buckets = append(buckets, api.Bucket{Cell: c, At: points[c]})
	}
	return buckets, api.OK
}

// Reduce returns the first point of each cell that has points, with the
// greatest speed of the points of the cell, in the order of the cloud.
func Reduce(l []api.Point, size int64) ([]api.Point, api.Errno) {
	if e := checkGrid(l, size); e != api.OK {
		return nil, e
	}
	var kept []api.Point
	place := map[api.Spot]int{}
	for _, p := range l {
		c := cell(p, size)
		if n, ok := place[c]; ok {
			kept[n].V = max(kept[n].V, p.V)
			continue
		}
		place[c] = len(kept)
		kept = append(kept, p)
	}
	return kept, api.OK
}

// Bound returns how far a point may be, at most, from the point of its cell
// that Reduce returns, rounded up.
func Bound(size int64) int64 {
	if !validSize(size) {
		return 0
	}
	side := size - 1
	// Twice the side is far enough in any case.
	return int64(sort.Search(int(2*side), func(n int) bool { return int64(n)*int64(n) >= 2*side*side }))
}

// checkGrid returns why a grid of this size cannot be laid over the cloud.
func checkGrid(l []api.Point, size int64) api.Errno {
	if e := Check(l); e != api.OK {
		return e
	}
	if !validSize(size) {
		return api.ErrRange
	}
	return api.OK
}

func validSize(size int64) bool {
	return size >= 1 && size <= api.MaxSpot
}

// cell returns the cell of a point.
func cell(p api.Point, size int64) api.Spot {
	return api.Spot{X: floor(p.X, size), Y: floor(p.Y, size)}
}

// floor returns a / b, rounded down, for a b above 0.
func floor(a, b int64) int64 {
	q := a / b
	if a%b < 0 {
		q--
	}
	return q
}
