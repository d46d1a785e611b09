package cloud_test

import (
	"math"
	"slices"

	"kerbstone/api"
)

// The greatest coordinate of a spot, and the other limits of the chapter.
const (
	far    = api.MaxSpot
	most   = api.MaxPoints
	fast   = api.MaxPointV
	shape  = api.MaxShape
	window = api.MaxWindow
)

// of makes a cloud of triples: X, Y and V.
func of(l ...int64) []api.Point {
	var c []api.Point
	for i := 0; i+2 < len(l); i += 3 {
		c = append(c, api.Point{X: l[i], Y: l[i+1], V: l[i+2]})
	}
	return c
}

// at makes a spot.
func at(x, y int64) api.Spot { return api.Spot{X: x, Y: y} }

// spots makes spots of pairs of coordinates.
func spots(l ...int64) []api.Spot {
	var s []api.Spot
	for i := 0; i+1 < len(l); i += 2 {
		s = append(s, at(l[i], l[i+1]))
	}
	return s
}

// place returns where a point is.
func place(p api.Point) api.Spot { return at(p.X, p.Y) }

// example is the cloud of the chapter's examples.
func example() []api.Point { return of(0, 0, 0, 300, 400, 5, 2000, 0, 0, 2000, 100, 7, 300, 400, 9) }

// row has n points on a line, far enough from each other to tell them apart.
func row(n int64) []api.Point {
	var c []api.Point
	for i := range n {
		c = append(c, api.Point{X: 10000 * i, Y: 1, V: i % 7})
	}
	return c
}

// invalid are clouds that are not valid, one for each reason, with the reason.
func invalid() ([][]api.Point, []api.Errno) {
	late := example()
	late[4].V = fast + 1
	full := row(most + 1)
	wrong := row(most + 1)
	wrong[0].V = fast + 1
	clouds := [][]api.Point{
		of(far+1, 0, 0), of(-far-1, 0, 0), of(0, far+1, 0), of(0, -far-1, 0),
		of(0, 0, fast+1), of(0, 0, -fast-1),
		of(math.MaxInt64, 0, 0), of(math.MinInt64, 0, 0), of(0, math.MaxInt64, 0), of(0, math.MinInt64, 0), of(0, 0, math.MaxInt64), of(0, 0, math.MinInt64),
		of(0, 0, 0, 0, far+1, 0), late, full, wrong,
	}
	reasons := make([]api.Errno, len(clouds))
	for i := range reasons {
		reasons[i] = api.ErrRange
		if len(clouds[i]) > most {
			reasons[i] = api.ErrFull
		}
	}
	return clouds, reasons
}

// outside are spots that are not valid.
func outside() []api.Spot {
	return spots(far+1, 0, -far-1, 0, 0, far+1, 0, -far-1, math.MaxInt64, 0, math.MinInt64, 0, 0, math.MaxInt64, 0, math.MinInt64)
}

// dice are numbers that look random, and are the same in each run.
type dice struct{ state uint64 }

// roll returns a number from lo to hi.
func (d *dice) roll(lo, hi int64) int64 {
	d.state ^= d.state << 13
	d.state ^= d.state >> 7
	d.state ^= d.state << 17
	return lo + int64((d.state>>8)%uint64(hi-lo+1))
}

// pick returns one of the numbers.
func (d *dice) pick(l ...int64) int64 { return l[d.roll(0, int64(len(l))-1)] }

// cloud returns a cloud of n points, the coordinates of which are at most
// spread.
func (d *dice) cloud(n, spread int64) []api.Point {
	var c []api.Point
	for range n {
		c = append(c, api.Point{X: d.roll(-spread, spread), Y: d.roll(-spread, spread), V: d.roll(-fast, fast)})
	}
	return c
}

// samples returns valid clouds: without points, on a line, with many points at
// one spot, and in squares from small to as great as can be.
func samples(seed uint64) [][]api.Point {
	d := &dice{seed}
	list := [][]api.Point{nil, example(), of(7, -7, 7), of(3, 3, 1, 3, 3, 0, 3, 3, 2), row(40), of(far, far, fast, -far, -far, -fast, far, -far, 0, -far, far, 0)}
	for i := range int64(40) {
		list = append(list, d.cloud(1+i%12, 3), d.cloud(1+i, 50), d.cloud(1+2*i, 5000), d.cloud(1+i, far))
	}
	var line []api.Point
	for range 30 {
		k := d.roll(-100, 100)
		line = append(line, api.Point{X: 3 * k, Y: 5 - 7*k, V: k})
	}
	return append(list, line)
}

// spread returns the greatest absolute coordinate of a cloud.
func spread(l []api.Point) int64 {
	n := int64(1)
	for _, p := range l {
		n = max(n, p.X, -p.X, p.Y, -p.Y)
	}
	return n
}

// lengths returns lengths of interest for a cloud: the least ones, and others
// up to its size, not above top.
func (d *dice) lengths(l []api.Point, top int64) []int64 {
	list := []int64{0, 1, 2, 3, top}
	for range 6 {
		list = append(list, d.roll(0, min(top, 2*spread(l))))
	}
	return list
}

// square returns the square of the distance.
func square(p, q api.Spot) int64 {
	return (p.X-q.X)*(p.X-q.X) + (p.Y-q.Y)*(p.Y-q.Y)
}

// shuffled returns the points in another order.
func (d *dice) shuffled(l []api.Point) []api.Point {
	to := slices.Clone(l)
	for i := range to {
		j := d.roll(0, int64(i))
		to[i], to[j] = to[j], to[i]
	}
	return to
}

// listsEqual reports whether the lists have the same numbers.
func listsEqual(a, b [][]int) bool {
	return slices.EqualFunc(a, b, slices.Equal[[]int])
}

// bucketsEqual reports whether the buckets are the same.
func bucketsEqual(a, b []api.Bucket) bool {
	return slices.EqualFunc(a, b, func(x, y api.Bucket) bool { return x.Cell == y.Cell && slices.Equal(x.At, y.At) })
}
