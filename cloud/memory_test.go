package cloud_test

import (
	"math"
	"slices"
	"testing"

	"kerbstone/api"
	"kerbstone/cloud"
)

// roomy returns the list with room behind its end, which is filled.
func roomy[E any](l []E, more E) (part, all []E) {
	all = slices.Clone(l)
	for range 20 {
		all = append(all, more)
	}
	return all[:len(l)], all
}

// R4
func TestArgumentsStay(t *testing.T) {
	l, all := roomy(example(), api.Point{X: -1, Y: -2, V: -3})
	m, others := roomy(of(900, 5, 1, 0, 9, 2, 7, 7, 3), api.Point{X: -4, Y: -5, V: -6})
	h, corners := roomy(spots(0, 0, 9, 0, 9, 9), at(-7, -7))
	before, othersBefore, cornersBefore := slices.Clone(all), slices.Clone(others), slices.Clone(corners)
	for _, a := range [][]api.Point{l, m} {
		cloud.Check(a)
		cloud.Index(a, 100)
		cloud.Within(a, api.Area{X1: 500, Y1: 500})
		cloud.Near(a, at(0, 0), 500)
		cloud.Nearest(a, at(0, 0), 2)
		cloud.Segments(a, 500)
		cloud.Reduce(a, 1000)
		cloud.Hull(a)
		cloud.Around(a)
		cloud.Shift(a, at(5, 5))
		cloud.Matches(a, m, at(1, 1), 100)
		cloud.Register(a, m, 100, 100)
	}
	for n := range len(h) {
		cloud.Area2(h[:n+1])
		cloud.Inside(h[:n+1], at(5, 5))
	}
	if !slices.Equal(all, before) || !slices.Equal(others, othersBefore) || !slices.Equal(corners, cornersBefore) {
		t.Error("an argument was changed", all, others, corners)
	}
}

// R4
func TestResultsAreNew(t *testing.T) {
	l := example()
	shifted, _ := cloud.Shift(l, at(0, 0))
	reduced, _ := cloud.Reduce(l, 1)
	for i := range shifted {
		shifted[i].X = 77
	}
	for i := range reduced {
		reduced[i].Y = 77
	}
	if !slices.Equal(l, example()) {
		t.Error("a result shares memory with an argument", l)
	}
	kept, _ := cloud.Shift(l, at(1, 1))
	few, _ := cloud.Reduce(l, 1000)
	l[0].X = 5
	if kept[0] != (api.Point{X: 1, Y: 1}) || few[0] != (api.Point{V: 9}) {
		t.Error("a result shares memory with an argument", kept, few)
	}
}

// R4: what is written to a part of a result, or appended to it, is seen in no
// other part.
func TestPartsShareNothing(t *testing.T) {
	l := example()
	want, _ := cloud.Segments(l, 100)
	for i := range want {
		segments, _ := cloud.Segments(l, 100)
		copies := make([][]int, len(segments))
		for n, s := range segments {
			copies[n] = slices.Clone(s)
		}
		for n := range segments[i] {
			segments[i][n] = -1
		}
		_ = append(segments[i], -1, -1, -1)
		for n, s := range segments {
			if n != i && !slices.Equal(s, copies[n]) {
				t.Error(i, n, s)
			}
		}
	}
	for i := range 4 {
		buckets, e := cloud.Index(l, 1)
		if e != api.OK || len(buckets) != 4 {
			t.Fatal(buckets, e)
		}
		for n := range buckets[i].At {
			buckets[i].At[n] = -1
		}
		_ = append(buckets[i].At, -1, -1, -1)
		other, _ := cloud.Index(l, 1)
		for n := range buckets {
			if n != i && !slices.Equal(buckets[n].At, other[n].At) {
				t.Error(i, n, buckets)
			}
		}
	}
}

// R4, R6: the same arguments have the same results, and a nil list is an empty
// one.
func TestSameAgain(t *testing.T) {
	d := &dice{91}
	l := d.cloud(200, 500)
	first, _ := cloud.Index(l, 40)
	for range 20 {
		if again, _ := cloud.Index(l, 40); !bucketsEqual(first, again) {
			t.Fatal("the buckets come in another order")
		}
	}
	none := []api.Point{}
	if _, n, e := cloud.Register(none, none, 5, 5); n != 0 || e != api.OK || len(cloud.Hull(none)) > 0 || cloud.Inside([]api.Spot{}, at(0, 0)) || cloud.Area2([]api.Spot{}) != 0 {
		t.Error("an empty list is not like none")
	}
}

// P1, R5
func TestAnyArguments(t *testing.T) {
	numbers := []int64{math.MinInt64, math.MinInt64 + 1, -2*far - 1, -far, -1, 0, 1, 1000, window, far, 2 * far, math.MaxInt64}
	clouds, _ := invalid()
	clouds = append(clouds, nil, example(), of(far, far, fast, -far, -far, -fast))
	for _, x := range numbers {
		for _, y := range numbers {
			p := at(x, y)
			for _, l := range clouds {
				cloud.Within(l, api.Area{X0: x, Y0: y, X1: y, Y1: x})
				cloud.Near(l, p, x)
				cloud.Nearest(l, p, int(y))
				cloud.Shift(l, p)
				cloud.Matches(l, example(), p, x)
				cloud.Matches(example(), l, p, y)
				cloud.Register(l, l, x, y)
			}
			for _, h := range [][]api.Spot{nil, spots(x, y), spots(x, y, y, x), spots(x, y, y, x, 0, 0), spots(0, 0, far, far, x, x, y, y)} {
				cloud.Area2(h)
				cloud.Inside(h, p)
				cloud.Inside(h, at(0, 0))
			}
		}
		for _, l := range clouds {
			cloud.Index(l, x)
			cloud.Segments(l, x)
			cloud.Reduce(l, x)
		}
		cloud.Bound(x)
	}
}
