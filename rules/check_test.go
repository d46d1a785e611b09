package rules_test

import (
	"slices"
	"testing"

	"kerbstone/api"
	"kerbstone/rules"
)

// widths are widths, and the error that each of them has.
var widths = map[int]api.Errno{1: api.OK, 2: api.OK, 11: api.OK, 12: api.OK, 0: api.ErrRange, -1: api.ErrRange, 13: api.ErrRange, far: api.ErrRange, low: api.ErrRange}

// P6.1
func TestCheckExamples(t *testing.T) {
	for i, x := range []struct {
		f    []api.Node
		want api.Errno
	}{
		{le(0, -1, 5), api.OK}, {le(1, -1, 5), api.ErrRange}, {[]api.Node{{Op: api.OpAnd}, {Op: api.OpTrue}}, api.ErrShort}, {slices.Concat(yes(), yes()), api.ErrLong},
		{some(3, 2, yes()), api.ErrRange}, {nil, api.ErrShort}, {[]api.Node{}, api.ErrShort},
	} {
		if e := rules.Check(x.f, 1); e != x.want {
			t.Error(i, e)
		}
	}
}

// P6.1
func TestCheckWidth(t *testing.T) {
	for width, want := range widths {
		if e := rules.Check(yes(), width); e != want {
			t.Error(width, e)
		}
		// The width is looked at before everything else.
		if e := rules.Check(slices.Repeat([]api.Node{{Op: -1}}, 41), width); want != api.OK && e != want {
			t.Error(width, e)
		}
	}
}

// P6.1: nodes with numbers as great and as small as they may be, and those next
// to them.
func TestCheckNodes(t *testing.T) {
	const k = 2 << 40
	for i, x := range []struct {
		f     []api.Node
		width int
		want  api.Errno
	}{
		{le(0, -1, 0), 1, api.OK}, {le(0, 0, 0), 1, api.OK}, {le(0, 1, 0), 1, api.ErrRange}, {le(1, 0, 0), 1, api.ErrRange}, {le(-1, 0, 0), 1, api.ErrRange}, {le(0, -2, 0), 1, api.ErrRange},
		{le(11, 11, 0), 12, api.OK}, {le(12, 0, 0), 12, api.ErrRange}, {le(0, 12, 0), 12, api.ErrRange}, {le(far, 0, 0), 12, api.ErrRange}, {le(low, 0, 0), 12, api.ErrRange}, {le(0, far, 0), 12, api.ErrRange}, {le(0, low, 0), 12, api.ErrRange},
		{le(4, 0, 0), 5, api.OK}, {le(5, 0, 0), 5, api.ErrRange}, {le(0, 4, 0), 5, api.OK}, {le(0, 5, 0), 5, api.ErrRange},
		{le(0, -1, k), 1, api.OK}, {le(0, -1, -k), 1, api.OK}, {le(0, -1, k+1), 1, api.ErrRange}, {le(0, -1, -k-1), 1, api.ErrRange}, {le(0, -1, far), 1, api.ErrRange}, {le(0, -1, low), 1, api.ErrRange},
	} {
		if e := rules.Check(x.f, x.width); e != x.want {
			t.Error(i, e, x.want)
		}
	}
	for _, op := range []int{api.OpAlways, api.OpSome, api.OpUntil} {
		for i, x := range []struct {
			lo, hi int64
			want   api.Errno
		}{
			{0, 0, api.OK}, {0, 20, api.OK}, {20, 20, api.OK}, {7, 9, api.OK}, {9, 9, api.OK}, {10, 9, api.ErrRange}, {-1, 0, api.ErrRange}, {-1, -1, api.ErrRange}, {0, 21, api.ErrRange}, {21, 21, api.ErrRange}, {1, 0, api.ErrRange},
			{low, 0, api.ErrRange}, {0, far, api.ErrRange}, {far, far, api.ErrRange}, {0, low, api.ErrRange}, {low, low, api.ErrRange}, {far, 0, api.ErrRange},
		} {
			f := slices.Concat([]api.Node{{Op: op, Lo: x.lo, Hi: x.hi}}, yes())
			if op == api.OpUntil {
				f = append(f, yes()...)
			}
			if e := rules.Check(f, 1); e != x.want {
				t.Error(op, i, e, x.want)
			}
		}
	}
}

// P6.1: the kinds of nodes, and the fields that they do not use.
func TestCheckFields(t *testing.T) {
	for _, op := range []int{0, 9, -1, 10, far, low} {
		// There is no such kind, whatever the fields are.
		for i, n := range []api.Node{{Op: op}, {Op: op, L: -1}, {Op: op, Lo: 5, Hi: 3}} {
			if e := rules.Check([]api.Node{n}, 1); e != api.ErrKind {
				t.Error(op, i, e)
			}
		}
	}
	set := []func(n *api.Node, v int64){
		func(n *api.Node, v int64) { n.L = int(v) }, func(n *api.Node, v int64) { n.R = int(v) }, func(n *api.Node, v int64) { n.K = v },
		func(n *api.Node, v int64) { n.Lo = v }, func(n *api.Node, v int64) { n.Hi = v },
	}
	for op, used := range map[int]string{api.OpTrue: "-----", api.OpLess: "LRK--", api.OpNot: "-----", api.OpAnd: "-----", api.OpOr: "-----", api.OpAlways: "---LH", api.OpSome: "---LH", api.OpUntil: "---LH"} {
		rest := slices.Repeat(yes(), map[int]int{api.OpNot: 1, api.OpAlways: 1, api.OpSome: 1, api.OpAnd: 2, api.OpOr: 2, api.OpUntil: 2}[op])
		if e := rules.Check(slices.Concat([]api.Node{{Op: op}}, rest), 1); e != api.OK {
			t.Error(op, e)
		}
		for i, put := range set {
			for _, v := range []int64{1, -1, 20, far, low} {
				n := api.Node{Op: op}
				put(&n, v)
				e := rules.Check(slices.Concat([]api.Node{n}, rest), 1)
				if used[i] == '-' && e != api.ErrForm || used[i] != '-' && e == api.ErrForm {
					t.Error(op, i, v, e)
				}
				// A field that is not used is looked at before those that are.
				for _, other := range set {
					other(&n, low)
				}
				if e := rules.Check([]api.Node{n}, 1); e != api.ErrForm {
					t.Error(op, i, v, e)
				}
			}
		}
	}
}

// P6.1: what is one formula.
func TestCheckShape(t *testing.T) {
	yes, not, and, or := api.Node{Op: api.OpTrue}, api.Node{Op: api.OpNot}, api.Node{Op: api.OpAnd}, api.Node{Op: api.OpOr}
	always, some, until := api.Node{Op: api.OpAlways}, api.Node{Op: api.OpSome}, api.Node{Op: api.OpUntil}
	less := api.Node{Op: api.OpLess, R: -1}
	for i, x := range []struct {
		f    []api.Node
		want api.Errno
	}{
		{[]api.Node{yes}, api.OK}, {[]api.Node{less}, api.OK}, {[]api.Node{yes, less}, api.ErrLong}, {[]api.Node{less, yes}, api.ErrLong}, {[]api.Node{yes, not}, api.ErrLong},
		{[]api.Node{not}, api.ErrShort}, {[]api.Node{not, yes}, api.OK}, {[]api.Node{not, yes, yes}, api.ErrLong}, {[]api.Node{always}, api.ErrShort}, {[]api.Node{always, yes}, api.OK}, {[]api.Node{always, yes, yes}, api.ErrLong},
		{[]api.Node{some}, api.ErrShort}, {[]api.Node{some, yes}, api.OK}, {[]api.Node{some, yes, yes}, api.ErrLong}, {[]api.Node{not, not}, api.ErrShort}, {[]api.Node{not, always, some, yes}, api.OK},
		{[]api.Node{and}, api.ErrShort}, {[]api.Node{and, yes}, api.ErrShort}, {[]api.Node{and, yes, less}, api.OK}, {[]api.Node{and, yes, less, yes}, api.ErrLong}, {[]api.Node{or, yes}, api.ErrShort}, {[]api.Node{or, yes, less}, api.OK},
		{[]api.Node{or, yes, less, yes}, api.ErrLong}, {[]api.Node{until}, api.ErrShort}, {[]api.Node{until, yes}, api.ErrShort}, {[]api.Node{until, yes, less}, api.OK}, {[]api.Node{until, yes, less, yes}, api.ErrLong},
		{[]api.Node{and, or, yes, yes, until, yes, not, yes}, api.OK}, {[]api.Node{and, or, yes, yes, until, yes, not}, api.ErrShort}, {[]api.Node{and, or, yes, yes, yes, until}, api.ErrLong},
		{[]api.Node{yes, and, yes}, api.ErrLong}, {[]api.Node{yes, yes, and, and}, api.ErrLong},
	} {
		if e := rules.Check(x.f, 1); e != x.want {
			t.Error(i, e, x.want)
		}
	}
}

// P6.1: the number of nodes, and the horizon.
func TestCheckSize(t *testing.T) {
	not := api.Node{Op: api.OpNot}
	step := api.Node{Op: api.OpAlways, Lo: 20, Hi: 20}
	for i, x := range []struct {
		f    []api.Node
		want api.Errno
	}{
		{times(39, not, yes()), api.OK}, {times(40, not, yes()), api.ErrLong}, {slices.Repeat([]api.Node{{Op: -1}}, 41), api.ErrLong}, {slices.Repeat([]api.Node{{Op: -1}}, 40), api.ErrKind}, {slices.Repeat(yes(), 1000), api.ErrLong},
		{times(40, not, nil), api.ErrShort}, {slices.Repeat(yes(), 40), api.ErrLong}, {times(3, step, yes()), api.OK}, {times(4, step, yes()), api.ErrFull}, {times(3, step, some(0, 1, yes())), api.ErrFull}, {times(3, step, some(0, 0, yes())), api.OK},
		{times(2, step, until(0, 20, yes(), yes())), api.OK}, {times(2, step, until(0, 20, always(0, 1, yes()), yes())), api.OK}, {times(2, step, until(0, 20, always(0, 2, yes()), yes())), api.ErrFull}, {times(2, step, until(0, 20, yes(), always(0, 1, yes()))), api.ErrFull},
		{times(2, step, until(0, 0, times(3, step, yes()), always(0, 20, yes()))), api.OK}, {times(2, step, until(0, 1, times(2, step, yes()), yes())), api.ErrFull},
		{and(times(3, step, yes()), times(4, step, yes())), api.ErrFull}, {or(times(4, step, yes()), yes()), api.ErrFull}, {times(39, api.Node{Op: api.OpSome, Hi: 20}, yes()), api.ErrFull},
		{times(1, not, times(4, step, nil)), api.ErrShort}, {slices.Concat(times(4, step, yes()), yes()), api.ErrLong},
	} {
		if e := rules.Check(x.f, 1); e != x.want {
			t.Error(i, e, x.want)
		}
	}
}

// P6.1, R1: of two nodes that are not valid the first one counts, and each of
// them before what is missing, left, or too far.
func TestCheckFirst(t *testing.T) {
	bad := map[api.Errno]api.Node{api.ErrKind: {Op: 9}, api.ErrForm: {Op: api.OpTrue, K: 1}, api.ErrRange: {Op: api.OpLess, L: -1}}
	for first, n := range bad {
		for _, other := range bad {
			f := slices.Concat(times(4, api.Node{Op: api.OpSome, Hi: 20}, nil), []api.Node{n, other})
			if e := rules.Check(f, 1); e != first {
				t.Error(first, e)
			}
			if e := rules.Check([]api.Node{{Op: api.OpAnd}, n}, 1); e != first {
				t.Error(first, e)
			}
			if e := rules.Check([]api.Node{{Op: api.OpTrue}, n}, 1); e != first {
				t.Error(first, e)
			}
		}
	}
}

// P6.1
func TestHorizonExamples(t *testing.T) {
	step := api.Node{Op: api.OpAlways, Lo: 20, Hi: 20}
	for i, x := range []struct {
		f    []api.Node
		want int64
	}{
		{always(1, 3, some(0, 2, yes())), 5}, {until(0, 4, yes(), atMost(1)), 4}, {until(0, 0, some(0, 9, yes()), yes()), 0},
		{yes(), 0}, {atMost(5), 0}, {not(some(0, 7, yes())), 7}, {and(some(0, 7, yes()), some(0, 8, yes())), 8}, {and(some(0, 8, yes()), some(0, 7, yes())), 8}, {or(some(0, 7, yes()), yes()), 7}, {or(yes(), some(3, 7, yes())), 7},
		{until(2, 4, some(0, 3, yes()), yes()), 6}, {until(2, 4, some(0, 1, yes()), yes()), 4}, {until(2, 4, some(0, 3, yes()), some(0, 3, yes())), 7}, {until(2, 4, some(0, 9, yes()), some(0, 3, yes())), 12}, {until(0, 1, some(0, 9, yes()), yes()), 9},
		{until(0, 0, some(0, 9, yes()), some(0, 3, yes())), 3}, {le(11, 11, 0), 0}, {some(0, 5, le(11, 0, 0)), 5}, {some(0, 5, le(0, 11, 0)), 5},
		// It may be greater than that of a valid formula.
		{times(4, step, yes()), 80}, {times(39, step, yes()), 780}, {until(20, 20, times(4, step, yes()), yes()), 99},
		// Others have none.
		{nil, 0}, {some(0, 21, yes()), 0}, {some(3, 2, yes()), 0}, {some(0, 5, le(12, 0, 0)), 0}, {some(0, 5, nil), 0}, {slices.Concat(some(0, 5, yes()), yes()), 0}, {times(40, api.Node{Op: api.OpSome, Hi: 1}, yes()), 0},
		{[]api.Node{{Op: api.OpSome, Hi: 5}, {Op: 9}}, 0}, {[]api.Node{{Op: api.OpSome, Hi: 5, K: 1}, {Op: api.OpTrue}}, 0}, {[]api.Node{{Op: api.OpUntil, Hi: 5}, {Op: api.OpTrue}}, 0},
	} {
		if n := rules.Horizon(x.f); n != x.want {
			t.Error(i, n, x.want)
		}
	}
}

// P6.1
func TestHorizonPlain(t *testing.T) {
	d := &dice{11}
	for i := range 20000 {
		f := d.formula(3, d.roll(0, 5))
		want, e := plainHorizon(f), api.OK
		switch {
		case len(f) > 40:
			want, e = 0, api.ErrLong
		case want > 60:
			e = api.ErrFull
		}
		if n := rules.Horizon(f); n != want || rules.Check(f, 3) != e {
			t.Fatal(i, f, n, want)
		}
	}
}

// P6.2
func TestCheckTrace(t *testing.T) {
	const most = 1 << 40
	for width, want := range widths {
		if e := rules.CheckTrace(nil, width); e != want {
			t.Error(width, e)
		}
		if e := rules.CheckTrace(make([][]int64, 401), width); want != api.OK && e != want {
			t.Error(width, e)
		}
	}
	for i, x := range []struct {
		t     [][]int64
		width int
		want  api.Errno
	}{
		{nil, 1, api.OK}, {[][]int64{}, 12, api.OK}, {trace(1, 2, 3), 1, api.OK}, {trace(1, 2, 3), 2, api.ErrForm}, {table(2, 1, 2, 3, 4), 2, api.OK}, {table(2, 1, 2, 3, 4), 1, api.ErrForm}, {table(2, 1, 2, 3), 2, api.ErrForm}, {[][]int64{nil}, 1, api.ErrForm},
		{make([][]int64, 400), 1, api.ErrForm}, {make([][]int64, 401), 1, api.ErrFull}, {slices.Repeat(trace(5), 400), 1, api.OK}, {slices.Repeat(trace(5), 401), 1, api.ErrFull}, {slices.Repeat(trace(far), 401), 1, api.ErrFull},
		{trace(most, -most), 1, api.OK}, {trace(most + 1), 1, api.ErrRange}, {trace(-most - 1), 1, api.ErrRange}, {trace(far), 1, api.ErrRange}, {trace(low), 1, api.ErrRange}, {table(2, 0, 0, 0, most+1), 2, api.ErrRange},
		// Row by row; of a row its columns first.
		{[][]int64{{far}, {}}, 1, api.ErrRange}, {[][]int64{{}, {far}}, 1, api.ErrForm}, {[][]int64{{far, 0}}, 1, api.ErrForm}, {[][]int64{{0}, {far, far}}, 1, api.ErrForm},
	} {
		if e := rules.CheckTrace(x.t, x.width); e != x.want {
			t.Error(i, e, x.want)
		}
	}
}
