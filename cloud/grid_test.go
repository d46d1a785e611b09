package cloud_test

import (
	"math"
	"math/big"
	"slices"
	"testing"

	"kerbstone/api"
	"kerbstone/cloud"
)

// cells returns the cell of a point, with a division of big numbers, which
// rounds down for a divisor above 0.
func cells(p api.Point, size int64) api.Spot {
	down := func(c int64) int64 { return new(big.Int).Div(big.NewInt(c), big.NewInt(size)).Int64() }
	return at(down(p.X), down(p.Y))
}

// wrongSizes are sizes that a grid may not have.
func wrongSizes() []int64 {
	return []int64{math.MinInt64, -far, -1, 0, far + 1, math.MaxInt64}
}

// P2.2
func TestIndexExamples(t *testing.T) {
	for i, x := range []struct {
		l    []api.Point
		size int64
		want []api.Bucket
	}{
		{nil, 1000, nil},
		{example(), 1000, []api.Bucket{{Cell: at(0, 0), At: []int{0, 1, 4}}, {Cell: at(2, 0), At: []int{2, 3}}}},
		{example(), far, []api.Bucket{{Cell: at(0, 0), At: []int{0, 1, 2, 3, 4}}}},
		{example(), 1, []api.Bucket{{Cell: at(0, 0), At: []int{0}}, {Cell: at(300, 400), At: []int{1, 4}}, {Cell: at(2000, 0), At: []int{2}}, {Cell: at(2000, 100), At: []int{3}}}},
		{of(-1, 0, 0, -10, 0, 0, -11, 0, 0, 9, 0, 0, 10, 0, 0), 10, []api.Bucket{{Cell: at(-2, 0), At: []int{2}}, {Cell: at(-1, 0), At: []int{0, 1}}, {Cell: at(0, 0), At: []int{3}}, {Cell: at(1, 0), At: []int{4}}}},
		{of(0, 10, 0, 0, 9, 0, 0, -11, 0, 0, -10, 0, 0, -1, 0), 10, []api.Bucket{{Cell: at(0, -2), At: []int{2}}, {Cell: at(0, -1), At: []int{3, 4}}, {Cell: at(0, 0), At: []int{1}}, {Cell: at(0, 1), At: []int{0}}}},
		{of(5, -5, 0, -5, 5, 0, 5, 5, 0, -5, -5, 0), 6, []api.Bucket{{Cell: at(-1, -1), At: []int{3}}, {Cell: at(-1, 0), At: []int{1}}, {Cell: at(0, -1), At: []int{0}}, {Cell: at(0, 0), At: []int{2}}}},
		{of(far, -far, 0, far-1, 1-far, 0), far, []api.Bucket{{Cell: at(0, -1), At: []int{1}}, {Cell: at(1, -1), At: []int{0}}}},
	} {
		if b, e := cloud.Index(x.l, x.size); e != api.OK || !bucketsEqual(b, x.want) {
			t.Error(i, b, e)
		}
	}
	for _, size := range wrongSizes() {
		for _, l := range [][]api.Point{nil, example()} {
			if b, e := cloud.Index(l, size); e != api.ErrRange || len(b) > 0 {
				t.Error(size, b, e)
			}
		}
	}
}

// P2.2
func TestIndexSamples(t *testing.T) {
	d := &dice{21}
	for i, l := range samples(22) {
		for _, size := range d.lengths(l, far) {
			if size == 0 {
				continue
			}
			var want []api.Bucket
			for n, p := range l {
				c := cells(p, size)
				k := 0
				for k < len(want) && (want[k].Cell.X < c.X || want[k].Cell.X == c.X && want[k].Cell.Y < c.Y) {
					k++
				}
				if k == len(want) || want[k].Cell != c {
					want = slices.Insert(want, k, api.Bucket{Cell: c})
				}
				want[k].At = append(want[k].At, n)
			}
			if b, e := cloud.Index(l, size); e != api.OK || !bucketsEqual(b, want) {
				t.Error(i, size, b, e)
			}
		}
	}
}

// P2.4
func TestReduceExamples(t *testing.T) {
	for i, x := range []struct {
		l    []api.Point
		size int64
		want []api.Point
	}{
		{nil, 1000, nil},
		{example(), 1000, of(0, 0, 9, 2000, 0, 7)},
		{example(), 1, of(0, 0, 0, 300, 400, 9, 2000, 0, 0, 2000, 100, 7)},
		{example(), far, of(0, 0, 9)},
		{of(9, 9, -5, 1, 1, -3, 5, 5, -4), 10, of(9, 9, -3)},
		{of(50, 0, 1, 1, 1, 2, 55, 3, -1, 0, 0, 3), 10, of(50, 0, 1, 1, 1, 3)},
		{of(-1, -1, 1, 0, 0, 2, -10, -10, 7, 9, 9, 5), 10, of(-1, -1, 7, 0, 0, 5)},
		{of(-1, 5, 1, 1, 5, 2, 5, -1, 3), 10, of(-1, 5, 1, 1, 5, 2, 5, -1, 3)},
	} {
		if r, e := cloud.Reduce(x.l, x.size); e != api.OK || !slices.Equal(r, x.want) {
			t.Error(i, r, e)
		}
	}
	for _, size := range wrongSizes() {
		for _, l := range [][]api.Point{nil, example()} {
			if r, e := cloud.Reduce(l, size); e != api.ErrRange || len(r) > 0 {
				t.Error(size, r, e)
			}
		}
	}
}

// P2.4
func TestReduceSamples(t *testing.T) {
	d := &dice{23}
	for i, l := range samples(24) {
		for _, size := range d.lengths(l, far) {
			if size == 0 {
				continue
			}
			var want []api.Point
			for n, p := range l {
				same := func(q api.Point) bool { return cells(q, size) == cells(p, size) }
				if slices.ContainsFunc(l[:n], same) {
					continue
				}
				for _, q := range l[n:] {
					if same(q) {
						p.V = max(p.V, q.V)
					}
				}
				want = append(want, p)
			}
			if r, e := cloud.Reduce(l, size); e != api.OK || !slices.Equal(r, want) {
				t.Error(i, size, r, e)
			}
		}
	}
}

// P2.4
func TestBound(t *testing.T) {
	for _, size := range wrongSizes() {
		if n := cloud.Bound(size); n != 0 {
			t.Error(size, n)
		}
	}
	for size, want := range map[int64]int64{1: 0, 2: 2, 3: 3, 4: 5, 5: 6, 6: 8, 13: 17, 71: 99, 1000: 1413} {
		if n := cloud.Bound(size); n != want {
			t.Error(size, n, want)
		}
	}
	d := &dice{25}
	sizes := []int64{far, far - 1}
	for i := range int64(500) {
		sizes = append(sizes, i+1, d.roll(1, far))
	}
	for _, size := range sizes {
		n := cloud.Bound(size)
		least := 2 * (size - 1) * (size - 1)
		if n < 0 || n*n < least || n > 0 && (n-1)*(n-1) >= least {
			t.Error(size, n)
		}
	}
}
