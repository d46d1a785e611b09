package rules_test

import (
	"slices"
	"testing"

	"kerbstone/api"
	"kerbstone/rules"
)

// begin returns a watch of a formula.
func begin(t *testing.T, f []api.Node, width int) api.Watch {
	t.Helper()
	w, e := rules.Begin(f, width)
	if e != api.OK {
		t.Fatal(e)
	}
	return w
}

// push pushes rows, and returns the last watch, and what was said by the last
// row.
func push(t *testing.T, w api.Watch, rows ...[]int64) (api.Watch, []api.Said) {
	t.Helper()
	var said []api.Said
	for _, row := range rows {
		var e api.Errno
		if w, said, e = rules.Push(w, row); e != api.OK {
			t.Fatal(e)
		}
	}
	return w, said
}

// P6.3
func TestBegin(t *testing.T) {
	f := some(0, 1, le(1, 0, 0))
	if w := begin(t, f, 2); !equal(w, api.Watch{Nodes: f, Width: 2}) {
		t.Error(w)
	}
	for i, x := range []struct {
		f     []api.Node
		width int
		want  api.Errno
	}{{f, 1, api.ErrRange}, {f, 13, api.ErrRange}, {nil, 1, api.ErrShort}, {slices.Repeat(yes(), 2), 1, api.ErrLong}, {times(4, api.Node{Op: api.OpSome, Hi: 20}, yes()), 1, api.ErrFull}, {[]api.Node{{}}, 1, api.ErrKind}, {[]api.Node{{Op: api.OpTrue, Hi: 1}}, 1, api.ErrForm}} {
		if w, e := rules.Begin(x.f, x.width); e != x.want || !equal(w, api.Watch{}) {
			t.Error(i, w, e)
		}
	}
}

// P6.3
func TestPushExamples(t *testing.T) {
	f := some(0, 1, atMost(0))
	w := begin(t, f, 1)
	for i, x := range []struct {
		row  int64
		said []api.Said
		w    api.Watch
	}{
		{5, nil, api.Watch{Rows: trace(5), Open: []int64{0}}},
		{4, []api.Said{{At: 0}}, api.Watch{From: 1, Rows: trace(4), Open: []int64{1}}},
		{0, []api.Said{{At: 1, Yes: true}, {At: 2, Yes: true}}, api.Watch{From: 3}},
		{0, []api.Said{{At: 3, Yes: true}}, api.Watch{From: 4}},
		{1, nil, api.Watch{From: 4, Rows: trace(1), Open: []int64{4}}},
	} {
		var said []api.Said
		w, said = push(t, w, []int64{x.row})
		x.w.Nodes, x.w.Width = f, 1
		if !slices.Equal(said, x.said) || !equal(w, x.w) {
			t.Error(i, said, w)
		}
	}
}

// P6.3: rows between those that are open stay, and are not said again.
func TestPushKeepsRows(t *testing.T) {
	// A small value is followed by another one two rows later.
	f := or(not(atMost(5)), some(2, 2, atMost(5)))
	w, said := push(t, begin(t, f, 1), []int64{1}, []int64{9})
	if !slices.Equal(said, []api.Said{{At: 1, Yes: true}}) || !equal(w, api.Watch{Nodes: f, Width: 1, Rows: trace(1, 9), Open: []int64{0}}) {
		t.Error(said, w)
	}
	w, said = push(t, w, []int64{2})
	if !slices.Equal(said, []api.Said{{At: 0, Yes: true}}) || !equal(w, api.Watch{Nodes: f, Width: 1, From: 2, Rows: trace(2), Open: []int64{2}}) {
		t.Error(said, w)
	}
	w, said = push(t, w, []int64{3})
	if said != nil || !equal(w, api.Watch{Nodes: f, Width: 1, From: 2, Rows: trace(2, 3), Open: []int64{2, 3}}) {
		t.Error(said, w)
	}
	w, said = push(t, w, []int64{8})
	if !slices.Equal(said, []api.Said{{At: 2}, {At: 4, Yes: true}}) || !equal(w, api.Watch{Nodes: f, Width: 1, From: 3, Rows: trace(3, 8), Open: []int64{3}}) {
		t.Error(said, w)
	}
}

// P6.3: a watch never has more rows than the horizon says.
func TestPushRows(t *testing.T) {
	f := times(3, api.Node{Op: api.OpSome, Hi: 20}, atMost(5))
	w := begin(t, f, 1)
	for n := range int64(200) {
		var said []api.Said
		w, said = push(t, w, []int64{9})
		if len(w.Rows) != int(min(n+1, 60)) || len(w.Open) != len(w.Rows) || w.From != max(0, n-59) || rules.CheckWatch(w) != api.OK {
			t.Fatal(n, w)
		}
		if n < 60 && said != nil || n >= 60 && !slices.Equal(said, []api.Said{{At: n - 60}}) {
			t.Fatal(n, said)
		}
	}
	w, said := push(t, w, []int64{5})
	if len(said) != 61 || said[0] != (api.Said{At: 140, Yes: true}) || said[60] != (api.Said{At: 200, Yes: true}) || !equal(w, api.Watch{Nodes: f, Width: 1, From: 201}) {
		t.Error(said, w)
	}
}

// P6.3
func TestCheckWatch(t *testing.T) {
	f := some(0, 2, atMost(5))
	watch := func(from int64, rows [][]int64, open ...int64) api.Watch {
		return api.Watch{Nodes: f, Width: 1, From: from, Rows: rows, Open: open}
	}
	change := func(w api.Watch, make func(w *api.Watch)) api.Watch {
		make(&w)
		return w
	}
	for i, x := range []struct {
		w    api.Watch
		want api.Errno
	}{
		{watch(0, nil), api.OK}, {watch(7, nil), api.OK}, {watch(api.MaxTick, nil), api.OK}, {watch(0, trace(6), 0), api.OK}, {watch(7, trace(6, 7), 7, 8), api.OK}, {watch(api.MaxTick, trace(6), api.MaxTick), api.OK},
		{watch(7, trace(6, 7), 7, 8), api.OK}, {api.Watch{}, api.ErrRange}, {api.Watch{Width: 1}, api.ErrShort},
		{watch(-1, nil), api.ErrRange}, {watch(api.MaxTick+1, nil), api.ErrRange}, {watch(far, trace(6), far), api.ErrRange}, {watch(low, trace(6), low), api.ErrRange},
		// Open has exactly those that are open, ascending.
		{watch(0, nil, 0), api.ErrState}, {watch(0, trace(6)), api.ErrState}, {watch(0, trace(6), 1), api.ErrState}, {watch(7, trace(6), 0), api.ErrState}, {watch(7, trace(6, 7), 7), api.ErrState}, {watch(7, trace(6, 7), 8), api.ErrState},
		{watch(7, trace(6, 7), 8, 7), api.ErrState}, {watch(7, trace(6, 7), 7, 7, 8), api.ErrState}, {watch(7, trace(6, 7), 7, 8, 9), api.ErrState}, {watch(7, trace(6, 7), 6, 7, 8), api.ErrState},
		// The first row is open.
		{watch(7, trace(5)), api.ErrState}, {watch(7, trace(5, 6), 8), api.ErrState}, {watch(7, trace(6, 7, 8, 9), 8, 9, 10), api.ErrState}, {watch(7, trace(5), 7), api.ErrState}, {watch(7, trace(6, 7, 8), 7, 8, 9), api.ErrState},
		{change(watch(0, nil), func(w *api.Watch) {
			w.Nodes = or(atMost(3), some(2, 2, atMost(3)))
			w.Rows = trace(4, 3)
			w.Open = []int64{0}
		}), api.OK},
		{change(watch(0, nil), func(w *api.Watch) {
			w.Nodes = or(atMost(3), some(2, 2, atMost(3)))
			w.Rows = trace(4, 3)
			w.Open = []int64{0, 1}
		}), api.ErrState},
		// The formula, the rows, From, Open: in this order.
		{change(watch(-1, trace(far), 5), func(w *api.Watch) { w.Width = 0 }), api.ErrRange}, {change(watch(-1, trace(far), 5), func(w *api.Watch) { w.Nodes = nil }), api.ErrShort}, {change(watch(-1, [][]int64{{}}, 5), func(w *api.Watch) { w.Nodes = times(2, api.Node{Op: api.OpTrue}, nil) }), api.ErrLong},
		{watch(-1, [][]int64{{}}, 5), api.ErrForm}, {watch(-1, make([][]int64, 401), 5), api.ErrFull}, {watch(-1, trace(6), 5), api.ErrRange}, {watch(0, trace(far), 5), api.ErrRange}, {watch(0, slices.Repeat(trace(6), 400), 0), api.ErrState}, {change(watch(0, trace(6), 0), func(w *api.Watch) { w.Width = 2 }), api.ErrForm},
	} {
		if e := rules.CheckWatch(x.w); e != x.want {
			t.Error(i, e, x.want)
		}
		// Push has the same errors, whatever the row is.
		for _, row := range [][]int64{nil, {5}, {far}} {
			if w, said, e := rules.Push(x.w, row); x.want != api.OK && (e != x.want || !equal(w, api.Watch{}) || said != nil) {
				t.Error(i, w, said, e)
			}
		}
	}
}

// P6.3, R1
func TestPushErrors(t *testing.T) {
	f := some(0, 2, atMost(5))
	last := api.Watch{Nodes: f, Width: 1, From: api.MaxTick}
	for i, x := range []struct {
		w    api.Watch
		row  []int64
		want api.Errno
	}{
		{begin(t, f, 1), nil, api.ErrForm}, {begin(t, f, 1), []int64{1, 2}, api.ErrForm}, {begin(t, f, 2), []int64{1}, api.ErrForm}, {begin(t, f, 1), []int64{1<<40 + 1}, api.ErrRange}, {begin(t, f, 1), []int64{low}, api.ErrRange}, {begin(t, f, 1), []int64{-1 << 40}, api.OK},
		{last, []int64{1}, api.ErrFull}, {last, []int64{}, api.ErrForm}, {last, []int64{far}, api.ErrRange},
		{api.Watch{Nodes: f, Width: 1, From: api.MaxTick - 1}, []int64{9}, api.OK}, {api.Watch{Nodes: f, Width: 1, From: api.MaxTick - 1, Rows: trace(6), Open: []int64{api.MaxTick - 1}}, []int64{6}, api.ErrFull},
		{api.Watch{Nodes: f, Width: 1, From: api.MaxTick - 2, Rows: trace(6), Open: []int64{api.MaxTick - 2}}, []int64{6}, api.OK}, {api.Watch{Nodes: f, Width: 1, From: api.MaxTick, Rows: trace(6), Open: []int64{api.MaxTick}}, []int64{6}, api.ErrFull},
	} {
		w, said, e := rules.Push(x.w, x.row)
		if e != x.want || e != api.OK && (!equal(w, api.Watch{}) || said != nil) || e == api.OK && rules.CheckWatch(w) != api.OK {
			t.Error(i, w, said, e)
		}
	}
	// The last row of all.
	w, said := push(t, api.Watch{Nodes: f, Width: 1, From: api.MaxTick - 1}, []int64{5})
	if !slices.Equal(said, []api.Said{{At: api.MaxTick - 1, Yes: true}}) || !equal(w, api.Watch{Nodes: f, Width: 1, From: api.MaxTick}) {
		t.Error(w, said)
	}
}

// P6.3
func TestPushPlain(t *testing.T) {
	d := &dice{31}
	for i := range 3000 {
		width := int(d.roll(1, 2))
		f := d.formula(width, d.roll(0, 3))
		rows := d.trace(width, d.roll(1, 14))
		// The watch may begin with any row.
		from := d.pick(0, 1, 1000, api.MaxTick-14)
		w := begin(t, f, width)
		w.From = from
		before := w
		for n := range rows {
			var said, wantSaid []api.Said
			w, said = push(t, w, rows[n])
			want := plainWatch(f, width, rows[:n+1])
			want.From += from
			for k := range want.Open {
				want.Open[k] += from
			}
			for _, at := range append(slices.Clone(before.Open), from+int64(n)) {
				if v := plainVerdict(f, rows[:n+1], int(at-from)); v != api.Open {
					wantSaid = append(wantSaid, api.Said{At: at, Yes: v == api.Yes})
				}
			}
			if !equal(w, want) || !slices.Equal(said, wantSaid) || rules.CheckWatch(w) != api.OK {
				t.Fatal(i, n, w, want, said, wantSaid)
			}
			before = w
		}
	}
}
