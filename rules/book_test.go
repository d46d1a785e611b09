package rules_test

import (
	"slices"
	"testing"

	"kerbstone/api"
	"kerbstone/rules"
)

// exampleBook is the book of the chapter's examples.
func exampleBook() []api.Law {
	return []api.Law{law(1, atMost(5)), law(0, some(0, 0, atMost(9)))}
}

// P6.4
func TestCheckBook(t *testing.T) {
	good := law(0, yes())
	for width, want := range widths {
		for i, b := range [][]api.Law{nil, {good}, {good, good}} {
			if e := rules.CheckBook(b, width); e != want {
				t.Error(width, i, e)
			}
		}
	}
	for i, x := range []struct {
		b     []api.Law
		width int
		want  api.Errno
	}{
		{nil, 1, api.OK}, {[]api.Law{}, 1, api.OK}, {slices.Repeat([]api.Law{good}, 8), 1, api.OK}, {slices.Repeat([]api.Law{good}, 9), 1, api.ErrFull}, {slices.Repeat([]api.Law{law(-1, nil)}, 9), 0, api.ErrFull},
		{[]api.Law{law(9, yes())}, 1, api.OK}, {[]api.Law{law(10, yes())}, 1, api.ErrRange}, {[]api.Law{law(-1, yes())}, 1, api.ErrRange}, {[]api.Law{law(far, yes())}, 1, api.ErrRange}, {[]api.Law{law(low, yes())}, 1, api.ErrRange},
		{[]api.Law{law(0, nil)}, 1, api.ErrShort}, {[]api.Law{law(10, nil)}, 1, api.ErrRange}, {[]api.Law{good, law(0, nil)}, 1, api.ErrShort}, {[]api.Law{law(0, nil), law(10, yes())}, 1, api.ErrShort}, {[]api.Law{law(10, yes()), law(0, nil)}, 1, api.ErrRange},
		{[]api.Law{law(0, le(1, 0, 0))}, 1, api.ErrRange}, {[]api.Law{law(0, le(1, 0, 0))}, 2, api.OK}, {[]api.Law{law(0, []api.Node{{}})}, 1, api.ErrKind}, {[]api.Law{law(0, []api.Node{{Op: 1, K: 1}})}, 1, api.ErrForm}, {[]api.Law{law(0, times(4, api.Node{Op: api.OpSome, Hi: 20}, yes()))}, 1, api.ErrFull},
		{[]api.Law{law(0, slices.Repeat(yes(), 2))}, 1, api.ErrLong}, {[]api.Law{law(0, nil)}, 0, api.ErrRange}, {[]api.Law{good, good, law(3, nil)}, 12, api.ErrShort},
	} {
		if e := rules.CheckBook(x.b, x.width); e != x.want {
			t.Error(i, e, x.want)
		}
	}
}

// P6.4
func TestCostsExamples(t *testing.T) {
	two := func(f []api.Node) []api.Law { return []api.Law{law(9, f), law(4, f), law(9, f)} }
	for i, x := range []struct {
		b    []api.Law
		t    [][]int64
		want []int64
	}{
		{exampleBook(), trace(6, 10, 2), []int64{1, 2, 0, 0, 0, 0, 0, 0, 0, 0}}, {exampleBook(), nil, make([]int64, 10)}, {nil, trace(6, 10, 2), make([]int64, 10)},
		{two(atMost(5)), trace(6, 10, 2), []int64{0, 0, 0, 0, 2, 0, 0, 0, 0, 4}}, {two(no()), trace(6, 10, 2), []int64{0, 0, 0, 0, 3, 0, 0, 0, 0, 6}}, {two(no()), nil, make([]int64, 10)},
		// What is open costs nothing.
		{two(always(0, 2, atMost(5))), trace(1, 1, 1, 9, 1, 1), []int64{0, 0, 0, 0, 3, 0, 0, 0, 0, 6}}, {two(some(0, 1, atMost(5))), trace(9, 9), []int64{0, 0, 0, 0, 1, 0, 0, 0, 0, 2}},
		{slices.Repeat([]api.Law{law(0, no())}, 8), slices.Repeat(trace(1), 400), []int64{3200, 0, 0, 0, 0, 0, 0, 0, 0, 0}},
	} {
		if c, e := rules.Costs(x.b, 1, x.t); e != api.OK || !slices.Equal(c, x.want) {
			t.Error(i, c, e)
		}
	}
}

// P6.4
func TestBetterExamples(t *testing.T) {
	ranks := []api.Law{law(0, atMost(9)), law(1, atMost(5)), law(9, atMost(2))}
	for i, x := range []struct {
		b    []api.Law
		t, u [][]int64
		want int
	}{
		{exampleBook(), trace(6, 10, 2), trace(6, 7, 8), 1}, {exampleBook(), trace(6, 7, 8), trace(6, 10, 2), -1}, {exampleBook(), trace(6, 7, 8), trace(8, 9, 7), 0}, {exampleBook(), trace(6, 7, 8), trace(1, 6, 1, 6, 6, 1), 0},
		{exampleBook(), nil, trace(5, 5), 0}, {exampleBook(), nil, trace(6), -1}, {exampleBook(), trace(6), nil, 1}, {nil, trace(6), trace(10, 10), 0}, {ranks, trace(3), trace(2), 1}, {ranks, trace(3, 3, 3), trace(6), -1}, {ranks, trace(6, 6, 6), trace(10), -1},
		{ranks, trace(3), trace(3, 3), -1}, {ranks, trace(6, 1), trace(3, 6), -1}, {ranks, trace(10, 6), trace(1, 10), 1}, {ranks, trace(10, 2), trace(1, 10), 0},
	} {
		if v, e := rules.Better(x.b, 1, x.t, x.u); e != api.OK || v != x.want {
			t.Error(i, v, e)
		}
	}
}

// P6.4, R1
func TestCostsErrors(t *testing.T) {
	good := []api.Law{law(0, yes())}
	for i, x := range []struct {
		b     []api.Law
		width int
		t, u  [][]int64
		want  api.Errno
	}{
		{slices.Repeat(good, 9), 1, [][]int64{{}}, nil, api.ErrFull}, {[]api.Law{law(0, nil)}, 1, make([][]int64, 401), nil, api.ErrShort}, {nil, 0, [][]int64{{}}, nil, api.ErrRange}, {nil, 1, [][]int64{{}}, nil, api.ErrForm}, {good, 1, make([][]int64, 401), nil, api.ErrFull}, {good, 2, trace(1), nil, api.ErrForm},
		{good, 1, trace(far), [][]int64{{}}, api.ErrRange}, {good, 1, [][]int64{{}}, trace(far), api.ErrForm},
	} {
		if c, e := rules.Costs(x.b, x.width, x.t); e != x.want || c != nil {
			t.Error(i, c, e)
		}
		if v, e := rules.Better(x.b, x.width, x.t, x.u); e != x.want || v != 0 {
			t.Error(i, v, e)
		}
		// The second trace has the same errors, but after those of the first one.
		if v, e := rules.Better(x.b, x.width, nil, x.t); e != x.want || v != 0 {
			t.Error(i, v, e)
		}
	}
	if v, e := rules.Better(exampleBook(), 1, trace(10), trace(far)); e != api.ErrRange || v != 0 {
		t.Error(v, e)
	}
}

// book returns a valid book.
func (d *dice) book(width int) []api.Law {
	var b []api.Law
	for range d.roll(0, 8) {
		b = append(b, law(int(d.pick(0, 1, 2, 9, d.roll(0, 9))), d.formula(width, d.roll(0, 2))))
	}
	return b
}

// P6.4
func TestCostsPlain(t *testing.T) {
	d := &dice{41}
	var seen [3]int
	for i := range 3000 {
		width := int(d.roll(1, 3))
		b := d.book(width)
		x, y := d.trace(width, d.roll(0, 5)), d.trace(width, d.roll(0, 5))
		if d.often(30) {
			y = slices.Clone(x)
			slices.Reverse(y)
		}
		p, q := plainCosts(b, x), plainCosts(b, y)
		if c, e := rules.Costs(b, width, x); e != api.OK || !slices.Equal(c, p) {
			t.Fatal(i, c, e, p)
		}
		v, e := rules.Better(b, width, x, y)
		if e != api.OK || v != slices.Compare(p, q) {
			t.Fatal(i, v, e, p, q)
		}
		seen[v+1]++
	}
	if slices.Min(seen[:]) < 300 {
		t.Error(seen)
	}
}
