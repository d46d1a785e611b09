package rules_test

import (
	"slices"
	"testing"

	"kerbstone/api"
	"kerbstone/rules"
)

// eval returns a verdict where there is no error.
func eval(t *testing.T, f []api.Node, width int, rows [][]int64, at int) int {
	t.Helper()
	v, e := rules.Eval(f, width, rows, at)
	if e != api.OK {
		t.Fatal(e, f)
	}
	return v
}

// P6.2
func TestEvalExamples(t *testing.T) {
	keep, reach := always(0, 2, atMost(5)), until(0, 2, atMost(5), atMost(0))
	for i, x := range []struct {
		f    []api.Node
		t    [][]int64
		at   int
		want int
	}{
		{keep, trace(3, 4), 0, api.Open}, {keep, trace(3, 9), 0, api.No}, {keep, trace(3, 4, 5), 0, api.Yes}, {reach, trace(3, 0), 0, api.Yes}, {reach, trace(3, 9, 0), 0, api.No},
		{atMost(5), trace(5, 6), 0, api.Yes}, {atMost(5), trace(5, 6), 1, api.No}, {atMost(5), trace(5, 6), 2, api.Open}, {atMost(5), trace(5, 6), far, api.Open}, {atMost(5), nil, 0, api.Open},
		{yes(), nil, 0, api.Yes}, {yes(), trace(1), far, api.Yes}, {no(), nil, 5, api.No}, {keep, trace(3, 4, 5), far, api.Open}, {some(20, 20, yes()), nil, far, api.Yes}, {always(0, 20, no()), nil, far, api.No},
		{keep, trace(9, 1, 2, 3, 9), 1, api.Yes}, {keep, trace(9, 1, 2, 3, 9), 2, api.No}, {keep, trace(9, 1, 2, 3), 2, api.Open}, {keep, trace(9, 1, 2, 9), 3, api.No}, {keep, trace(9, 1, 2, 3), 4, api.Open},
		// The bounds are ends that count.
		{always(1, 2, atMost(5)), trace(9, 1, 5, 9), 0, api.Yes}, {always(1, 2, atMost(5)), trace(1, 6, 1, 1), 0, api.No}, {always(1, 2, atMost(5)), trace(1, 1, 6, 1), 0, api.No},
		{some(1, 2, atMost(5)), trace(1, 9, 9, 1), 0, api.No}, {some(1, 2, atMost(5)), trace(9, 5, 9, 9), 0, api.Yes}, {some(1, 2, atMost(5)), trace(9, 9, 5, 9), 0, api.Yes}, {some(1, 2, atMost(5)), trace(1, 9), 0, api.Open},
		// An until may end at once; its A counts from the position on, but not where it ends.
		{until(0, 0, no(), atMost(5)), trace(5), 0, api.Yes}, {until(0, 0, yes(), atMost(5)), trace(6, 1), 0, api.No}, {until(0, 2, no(), atMost(5)), trace(6, 1), 0, api.No}, {until(1, 2, atMost(7), atMost(0)), trace(7, 0), 0, api.Yes},
		{until(1, 2, atMost(7), atMost(0)), trace(0, 7, 0), 0, api.Yes}, {until(1, 2, atMost(7), atMost(0)), trace(0, 8, 0), 0, api.No}, {until(1, 2, atMost(7), atMost(0)), trace(8, 0), 0, api.No}, {until(2, 2, atMost(7), atMost(9)), trace(5, 8, 1), 0, api.No},
		{until(1, 2, atMost(7), atMost(0)), trace(0, 1, 2, 0), 0, api.No}, {until(1, 2, atMost(7), atMost(0)), trace(0, 1), 0, api.Open}, {until(1, 1, atMost(7), atMost(0)), trace(0), 0, api.Open}, {until(0, 2, atMost(7), yes()), nil, 0, api.Yes},
		// A is Open, and B is Yes: Open; but some other k may be Yes.
		{until(2, 2, atMost(7), yes()), trace(1), 0, api.Open}, {until(1, 2, atMost(7), yes()), trace(1), 0, api.Yes}, {until(1, 2, atMost(7), yes()), nil, 0, api.Open}, {until(3, 3, not(some(0, 3, yes())), yes()), nil, 0, api.No},
		// Far behind the last row A may be No, though comparisons are Open.
		{until(5, 5, and(atMost(9), no()), yes()), trace(1), 0, api.No}, {until(5, 5, atMost(9), yes()), trace(1), 0, api.Open}, {until(1, 1, or(atMost(5), always(1, 1, no())), yes()), trace(1), 0, api.Yes},
	} {
		if v := eval(t, x.f, 1, x.t, x.at); v != x.want {
			t.Error(i, v, x.want)
		}
	}
}

// P6.2: comparisons.
func TestEvalComparisons(t *testing.T) {
	const most = 1 << 40
	for i, x := range []struct {
		f    []api.Node
		row  []int64
		want int
	}{
		{le(0, 1, 2), []int64{5, 3}, api.Yes}, {le(0, 1, 1), []int64{5, 3}, api.No}, {le(1, 0, -2), []int64{5, 3}, api.Yes}, {le(1, 0, -3), []int64{5, 3}, api.No}, {le(0, 0, 0), []int64{5, 3}, api.Yes}, {le(0, 0, -1), []int64{5, 3}, api.No},
		{le(1, -1, 3), []int64{5, 3}, api.Yes}, {le(1, -1, 2), []int64{5, 3}, api.No}, {le(0, -1, -5), []int64{-5, 0}, api.Yes}, {le(0, -1, -6), []int64{-5, 0}, api.No},
		{le(0, 1, 2*most), []int64{most, -most}, api.Yes}, {le(0, 1, 2*most-1), []int64{most, -most}, api.No}, {le(0, 1, -2*most), []int64{-most, most}, api.Yes}, {le(0, 1, -2*most), []int64{-most, most - 1}, api.No},
	} {
		if v := eval(t, x.f, 2, [][]int64{x.row}, 0); v != x.want {
			t.Error(i, v, x.want)
		}
	}
}

// P6.2: operators of all verdicts.
func TestEvalTables(t *testing.T) {
	// The row has 5; the second position is behind it.
	part := map[int][]api.Node{api.Yes: yes(), api.No: no(), api.Open: some(1, 1, atMost(5))}
	for a, f := range part {
		if v, want := eval(t, not(f), 1, trace(5), 0), []int{api.Yes, api.No, api.Open}[a]; v != want {
			t.Error(a, v)
		}
		for b, g := range part {
			both, one := api.Yes, api.No
			for _, x := range []int{api.Open, api.No} {
				if a == x || b == x {
					both = x
				}
			}
			for _, x := range []int{api.Open, api.Yes} {
				if a == x || b == x {
					one = x
				}
			}
			if v := eval(t, and(f, g), 1, trace(5), 0); v != both {
				t.Error("and", a, b, v)
			}
			if v := eval(t, or(f, g), 1, trace(5), 0); v != one {
				t.Error("or", a, b, v)
			}
			if v := eval(t, until(0, 0, f, g), 1, trace(5), 0); v != b {
				t.Error("until 0 0", a, b, v)
			}
			if v := eval(t, until(1, 1, f, always(0, 0, g)), 1, trace(5), 0); v != both {
				t.Error("until 1 1", a, b, v)
			}
		}
	}
}

// P6.2, R1
func TestEvalErrors(t *testing.T) {
	bad := trace(far)
	for i, x := range []struct {
		f     []api.Node
		width int
		t     [][]int64
		at    int
		want  api.Errno
	}{
		{yes(), 0, bad, -1, api.ErrRange}, {nil, 1, bad, -1, api.ErrShort}, {slices.Repeat(yes(), 2), 1, make([][]int64, 401), -1, api.ErrLong}, {le(1, 1, 0), 1, [][]int64{{}}, -1, api.ErrRange}, {times(4, api.Node{Op: api.OpSome, Hi: 20}, yes()), 1, [][]int64{{}}, -1, api.ErrFull},
		{yes(), 1, [][]int64{{}}, -1, api.ErrForm}, {yes(), 1, make([][]int64, 401), -1, api.ErrFull}, {yes(), 1, bad, 0, api.ErrRange}, {yes(), 1, nil, -1, api.ErrRange}, {yes(), 1, trace(1), low, api.ErrRange}, {yes(), 13, nil, 0, api.ErrRange},
	} {
		if v, e := rules.Eval(x.f, x.width, x.t, x.at); e != x.want || v != 0 {
			t.Error(i, v, e, x.want)
		}
	}
}

// P6.2
func TestEvalPlain(t *testing.T) {
	d := &dice{21}
	var seen [3]int
	for i := range 6000 {
		width := int(d.roll(1, 3))
		f := d.formula(width, d.roll(0, 3))
		rows := d.trace(width, d.roll(0, 12))
		for at := range len(rows) + 2 {
			v := eval(t, f, width, rows, at)
			if want := plainVerdict(f, rows, at); v != want {
				t.Fatal(i, at, f, rows, v, want)
			}
			seen[v]++
		}
	}
	if slices.Min(seen[:]) < 5000 {
		t.Error(seen)
	}
}

// P1: a formula whose parts are asked for again and again takes no longer than
// its length says.
func TestEvalDeep(t *testing.T) {
	rows := slices.Repeat(trace(5), 400)
	// At each of 20 further positions the first column is small at one of 36
	// further ones.
	f := times(20, api.Node{Op: api.OpAlways, Hi: 1}, times(18, api.Node{Op: api.OpSome, Hi: 2}, atMost(5)))
	for at, want := range map[int]int{0: api.Yes, 379: api.Yes, 380: api.Open, 399: api.Open} {
		if v := eval(t, f, 1, rows, at); v != want {
			t.Error(at, v)
		}
	}
	f[len(f)-1].K = 4
	for at, want := range map[int]int{0: api.No, 363: api.No, 364: api.Open, 399: api.Open} {
		if v := eval(t, f, 1, rows, at); v != want {
			t.Error(at, v)
		}
	}
	c, e := rules.Costs(slices.Repeat([]api.Law{law(3, f)}, 8), 1, rows)
	if e != api.OK || c[3] != 8*364 {
		t.Error(c, e)
	}
}
