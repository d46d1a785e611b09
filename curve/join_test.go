package curve_test

import (
	"testing"

	"kerbstone/api"
	"kerbstone/curve"
)

func TestJoin(t *testing.T) {
	a := exampleA()
	for i, x := range []struct {
		a, b, want api.Curve
		e          api.Errno
	}{
		{a, of(10000, 0, 13000, 4000), of(0, 0, 10000, 0, 13000, 4000), api.OK},
		{a, of(10000, 0, 12000, 0, 13200, 1600), of(0, 0, 10000, 0, 12000, 0, 13200, 1600), api.OK},
		{exampleE(), of(8000, 4000, 9000, 4000), of(0, 0, 3000, 4000, 8000, 4000, 9000, 4000), api.OK},
		{row(9), moved(row(8), at(8000, 0)), row(16), api.OK}, {row(15), of(14000, 0, 15000, 0), row(16), api.OK},
		{a, exampleB(), of(), api.ErrMissing}, {a, a, of(), api.ErrMissing}, {exampleB(), a, of(), api.ErrMissing}, {a, of(10000, 1, 20000, 1), of(), api.ErrMissing}, {a, of(20000, 0, 10000, 0), of(), api.ErrMissing},
		{a, of(10000, 0, 10000, 5000), of(), api.ErrClash}, {a, of(10000, 0, 0, 0), of(), api.ErrClash},
		{row(16), of(15000, 0, 16000, 0), of(), api.ErrLong}, {row(9), moved(row(9), at(8000, 0)), of(), api.ErrLong}, {row(16), of(15000, 0, 15000, 1000), of(), api.ErrLong},
		{of(1, 1), a, of(), api.ErrShort}, {a, of(1, 1), of(), api.ErrShort}, {of(0, 0, 1, 1), of(0, 0), of(), api.ErrForm}, {of(0, 0), of(0, 0, 1, 1), of(), api.ErrShort}, {a, of(10000, 0, 10001, 1), of(), api.ErrForm}, {row(17), a, of(), api.ErrLong}, {a, of(5, 5, 5, 5), of(), api.ErrRange}, {a, of(0, 0, 3000, 0, 3000, 2000), of(), api.ErrClash},
	} {
		if c, e := curve.Join(x.a, x.b); e != x.e || !same(c, x.want) {
			t.Error(i, c, e)
		}
	}
}

// same compares the points of two curves, one by one.
func same(a, b api.Curve) bool {
	if len(a.Pts) != len(b.Pts) {
		return false
	}
	for i, p := range a.Pts {
		if p != b.Pts[i] {
			return false
		}
	}
	return true
}

func TestSameAndCopy(t *testing.T) {
	curves := append(invalid(), exampleA(), exampleB(), exampleD(), exampleE(), row(16), row(60), of(0, 0, 10000, 1), of(1, 0, 10000, 0), of(0, 0, 10000, 0, 20000, 0))
	for i, a := range curves {
		for j, b := range curves {
			if curve.Same(a, b) != same(a, b) {
				t.Error(i, j, a, b)
			}
		}
		if c := curve.Copy(a); !same(c, a) || !curve.Same(c, a) {
			t.Error(i, c)
		}
	}
	if !curve.Same(api.Curve{}, api.Curve{Pts: []api.Spot{}}) || !curve.Same(api.Curve{Pts: []api.Spot{}}, api.Curve{}) {
		t.Error("a nil slice and an empty one are equal")
	}
}
