package cloud_test

import (
	"testing"

	"kerbstone/api"
	"kerbstone/cloud"
)

// P2.1
func TestCheck(t *testing.T) {
	for i, l := range [][]api.Point{
		nil, {}, example(), row(most), of(far, far, fast), of(-far, -far, -fast), of(far, -far, 0, -far, far, 0),
	} {
		if e := cloud.Check(l); e != api.OK {
			t.Error(i, e)
		}
	}
	clouds, reasons := invalid()
	for i, l := range clouds {
		if e := cloud.Check(l); e != reasons[i] {
			t.Error(i, e, reasons[i])
		}
	}
	if e := cloud.Check(of(0, 0, -fast-1)); e != api.ErrRange {
		t.Error(e)
	}
	if e := cloud.Check(row(1 << 17)); e != api.ErrFull {
		t.Error(e)
	}
}

// P2.1: the error of Check comes before each other one.
func TestErrorOfCheckIsFirst(t *testing.T) {
	clouds, reasons := invalid()
	for i, l := range clouds {
		for _, n := range []int64{-1, 0, 1, 100, far, 3 * far} {
			if b, e := cloud.Index(l, n); e != reasons[i] || len(b) > 0 {
				t.Error(i, n, "Index", b, e)
			}
			if s, e := cloud.Segments(l, n); e != reasons[i] || len(s) > 0 {
				t.Error(i, n, "Segments", s, e)
			}
			if r, e := cloud.Reduce(l, n); e != reasons[i] || len(r) > 0 {
				t.Error(i, n, "Reduce", r, e)
			}
			if s, e := cloud.Shift(l, at(n, 0)); e != reasons[i] || len(s) > 0 {
				t.Error(i, n, "Shift", s, e)
			}
			for _, other := range [][]api.Point{nil, example(), row(shape + 1)} {
				if s, m, e := cloud.Register(l, other, n, n); e != reasons[i] || s != at(0, 0) || m != 0 {
					t.Error(i, n, "Register", s, m, e)
				}
				if s, m, e := cloud.Register(other, l, n, n); e != reasons[i] || s != at(0, 0) || m != 0 {
					t.Error(i, n, "Register", s, m, e)
				}
			}
			for j, other := range clouds {
				if s, m, e := cloud.Register(l, other, n, n); e != reasons[i] || s != at(0, 0) || m != 0 {
					t.Error(i, j, n, "Register", s, m, e)
				}
			}
		}
	}
}

func TestInvalidCloudsHaveNothing(t *testing.T) {
	clouds, _ := invalid()
	for i, l := range clouds {
		p := place(l[0])
		if n := cloud.Within(l, api.Area{X0: -far, Y0: -far, X1: far, Y1: far}); len(n) > 0 {
			t.Error(i, "Within", n)
		}
		for _, p := range []api.Spot{p, at(0, 0)} {
			if n := cloud.Near(l, p, 2*far); len(n) > 0 {
				t.Error(i, "Near", n)
			}
			if n := cloud.Nearest(l, p, 3); len(n) > 0 {
				t.Error(i, "Nearest", n)
			}
		}
		if h := cloud.Hull(l); len(h) > 0 {
			t.Error(i, "Hull", h)
		}
		if a, ok := cloud.Around(l); ok || a != (api.Area{}) {
			t.Error(i, "Around", a)
		}
		if n := cloud.Matches(l, l, at(0, 0), 0) + cloud.Matches(l, example(), at(0, 0), window) + cloud.Matches(example(), l, at(0, 0), window); n != 0 {
			t.Error(i, "Matches", n)
		}
	}
}
