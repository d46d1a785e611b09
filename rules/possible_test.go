package rules_test

import (
	"slices"
	"testing"

	"kerbstone/api"
	"kerbstone/rules"
)

// P6.6
func TestPossibleExamples(t *testing.T) {
	for i, x := range []struct {
		f    []api.Node
		p    []api.Choice
		t    [][]int64
		want bool
	}{
		{some(0, 2, atMost(3)), plantP(), trace(5), true}, {some(0, 2, atMost(2)), plantP(), trace(5), false}, {some(0, 2, atMost(3)), plantP(), trace(5, 4), true}, {some(0, 2, atMost(3)), plantP(), trace(5, 5), false},
		{yes(), plantP(), trace(5), true}, {no(), plantP(), trace(5), false}, {atMost(5), plantP(), trace(5), true}, {atMost(4), plantP(), trace(5), false}, {atMost(5), plantP(), trace(5, 6), true}, {always(0, 2, atMost(5)), plantP(), trace(5, 6), false},
		// It is about the position 0, and the rows behind the horizon do not matter.
		{some(0, 2, atMost(3)), plantP(), trace(5, 4, 3, 4, 5, 6, 7), true}, {some(0, 2, atMost(3)), plantP(), trace(5, 4, 4, 3, 2), false}, {some(0, 2, atMost(3)), plantP(), slices.Concat(trace(3), slices.Repeat(trace(4), 399)), true}, {some(0, 2, atMost(3)), plantP(), slices.Repeat(trace(4), 400), false},
		// Each choice counts: the first, the last and those between.
		{some(1, 1, and(atMost(6), not(atMost(5)))), plantP(), trace(5), true}, {some(1, 1, and(atMost(5), not(atMost(4)))), plantP(), trace(5), true}, {some(1, 1, atMost(4)), plantP(), trace(5), true}, {some(1, 1, not(atMost(6))), plantP(), trace(5), false},
		// There are always further rows, also from outside of the bounds.
		{some(1, 1, atMost(9)), plantP(), trace(50), true}, {some(1, 1, atMost(8)), plantP(), trace(50), false}, {some(1, 1, not(atMost(-1))), plantP(), trace(-50), true}, {some(1, 1, atMost(-1)), plantP(), trace(-50), false},
		{times(3, api.Node{Op: api.OpSome, Lo: 20, Hi: 20}, atMost(-60)), []api.Choice{{Lo: -1, Hi: -1, Min: -100, Max: 100}}, trace(0), true}, {times(3, api.Node{Op: api.OpSome, Lo: 20, Hi: 20}, atMost(-61)), []api.Choice{{Lo: -1, Hi: -1, Min: -100, Max: 100}}, trace(0), false},
	} {
		if ok, e := rules.Possible(x.f, x.p, x.t); e != api.OK || ok != x.want {
			t.Error(i, ok, e)
		}
	}
}

// P6.6: at most 6,561 lists of choices.
func TestPossibleSearch(t *testing.T) {
	for choices, most := range map[int64]int64{1: 60, 2: 12, 3: 8, 4: 6, 5: 5, 6: 4, 7: 4, 8: 4, 9: 4} {
		p := []api.Choice{choice(0, 1, choices)}
		for h := range int64(61) {
			f := times(2, api.Node{Op: api.OpSome, Lo: min(20, h), Hi: min(20, h)}, always(0, 0, atMost(-1)))
			f[1].Lo, f[1].Hi = min(20, h-f[0].Hi), min(20, h-f[0].Hi)
			f[2].Lo, f[2].Hi = h-f[0].Hi-f[1].Hi, h-f[0].Hi-f[1].Hi
			want := api.OK
			if h > most {
				want = api.ErrFull
			}
			if ok, e := rules.Possible(f, p, trace(0)); ok || e != want {
				t.Error(choices, h, ok, e)
			}
			if lost, is, e := rules.Return(f, p, trace(0)); is != (want == api.OK) || e != want || !equal(lost, api.Lost{}) {
				t.Error(choices, h, lost, is, e)
			}
		}
	}
	// The horizon alone counts, also with many rows.
	f := some(0, 5, atMost(-1))
	if _, e := rules.Possible(f, []api.Choice{choice(0, 1, 9)}, trace(1, 2, 3, 4, 5, 6, 7, 8, 9, 9)); e != api.ErrFull {
		t.Error(e)
	}
}

// P6.6, P6.7, R1: both have the same errors.
func TestPossibleErrors(t *testing.T) {
	wide, step := some(0, 20, yes()), some(0, 2, atMost(3))
	for i, x := range []struct {
		f    []api.Node
		p    []api.Choice
		t    [][]int64
		want api.Errno
	}{
		{nil, nil, [][]int64{{}}, api.ErrShort}, {nil, slices.Repeat(plantP(), 13), nil, api.ErrFull}, {[]api.Node{{}}, []api.Choice{{Owner: -1}}, nil, api.ErrRange}, {nil, slices.Repeat(plantP(), 3), nil, api.ErrFull},
		{nil, plantP(), [][]int64{{}}, api.ErrShort}, {[]api.Node{{}}, plantP(), [][]int64{{}}, api.ErrKind}, {le(1, 0, 0), plantP(), [][]int64{{}}, api.ErrRange}, {slices.Repeat(yes(), 2), plantP(), make([][]int64, 401), api.ErrLong}, {[]api.Node{{Op: 1, R: -1}}, plantP(), nil, api.ErrForm},
		{times(4, api.Node{Op: api.OpSome, Hi: 20}, yes()), plantP(), [][]int64{{}}, api.ErrFull}, {wide, plantP(), [][]int64{{}}, api.ErrForm}, {wide, plantP(), trace(far), api.ErrRange}, {wide, plantP(), make([][]int64, 401), api.ErrFull}, {wide, plantP(), table(2, 1, 2), api.ErrForm},
		{wide, plantP(), nil, api.ErrShort}, {wide, plantP(), trace(1, 9), api.ErrFull}, {step, plantP(), nil, api.ErrShort}, {step, plantP(), [][]int64{}, api.ErrShort},
		// Each row can follow the one before.
		{step, plantP(), trace(5, 7), api.ErrState}, {step, plantP(), trace(5, 3), api.ErrState}, {step, plantP(), trace(5, 6), api.OK}, {step, plantP(), trace(5, 4), api.OK}, {step, plantP(), trace(5, 5), api.OK}, {step, plantP(), trace(9, 10), api.ErrState}, {step, plantP(), trace(0, -1), api.ErrState},
		{step, plantP(), trace(50, 9), api.OK}, {step, plantP(), trace(50, 50), api.ErrState}, {step, plantP(), trace(50, 49), api.ErrState}, {step, plantP(), trace(-50, 0), api.OK}, {step, plantP(), trace(-50, 1), api.ErrState}, {step, plantP(), trace(-50, -49), api.ErrState},
		{step, plantP(), trace(3, 3, 3, 3, 3, 5), api.ErrState}, {step, plantP(), trace(3, 3, 3, 3, 5, 5), api.ErrState}, {step, plantP(), slices.Concat(slices.Repeat(trace(3), 399), trace(5)), api.ErrState}, {no(), plantP(), trace(3, 5), api.ErrState},
		{yes(), plantQ(), table(2, 3, 3, 4, 5), api.OK}, {yes(), plantQ(), table(2, 3, 3, 4, 6), api.ErrState}, {yes(), plantQ(), table(2, 3, 3, 5, 5), api.ErrState}, {yes(), plantQ(), table(2, 3, 3, 2, 3), api.ErrState}, {yes(), plantQ(), table(2, 3, 3, 3, 2), api.ErrState}, {yes(), plantQ(), table(2, 3, 3, 3, 3), api.OK},
	} {
		ok, e := rules.Possible(x.f, x.p, x.t)
		if e != x.want || e != api.OK && ok {
			t.Error(i, ok, e, x.want)
		}
		lost, is, e := rules.Return(x.f, x.p, x.t)
		if e != x.want || e != api.OK && (is || !equal(lost, api.Lost{})) {
			t.Error(i, lost, is, e, x.want)
		}
	}
}

// P6.7
func TestReturnExamples(t *testing.T) {
	near := some(0, 2, atMost(3))
	behind := always(0, 2, le(1, 0, 0))
	// Two drivers of the owner 2, and one of the owner 0.
	three := []api.Choice{choice(2, 0, 1), choice(0, 0, 1), choice(2, 0, 1)}
	for i, x := range []struct {
		f    []api.Node
		p    []api.Choice
		t    [][]int64
		lost api.Lost
		is   bool
	}{
		{near, plantP(), trace(5, 4, 4), api.Lost{At: 2, Who: []int{0}}, true}, {near, plantP(), trace(5, 4, 3), api.Lost{}, false}, {near, plantP(), trace(5, 5, 4), api.Lost{At: 1, Who: []int{0}}, true},
		{behind, plantQ(), table(2, 0, 0, 1, 2), api.Lost{At: 1, Who: []int{1}}, true}, {behind, plantQ(), table(2, 0, 0, 0, 1), api.Lost{At: 1, Who: []int{0, 1}}, true},
		// It never was possible.
		{near, plantP(), trace(6), api.Lost{}, true}, {near, plantP(), trace(6, 5, 4, 3), api.Lost{}, true}, {no(), plantP(), trace(6), api.Lost{}, true},
		// What comes later does not matter.
		{near, plantP(), trace(5, 4, 4, 3, 2, 1), api.Lost{At: 2, Who: []int{0}}, true}, {near, plantP(), trace(5, 4, 3, 4, 5, 6), api.Lost{}, false}, {near, plantP(), trace(5), api.Lost{}, false},
		// Nobody alone could have kept it.
		{some(1, 1, or(not(le(0, 1, -1)), no())), []api.Choice{choice(0, 0, 0), choice(1, 5, 5)}, table(2, 0, 0, 0, 5), api.Lost{}, true},
		{some(1, 1, and(not(atMost(0)), not(le(1, -1, 0)))), []api.Choice{choice(0, 0, 1), choice(1, 0, 1)}, table(2, 0, 0, 0, 0), api.Lost{At: 1}, true},
		{some(1, 1, and(not(atMost(0)), not(le(1, -1, 0)))), []api.Choice{choice(0, 0, 1), choice(1, 0, 1)}, table(2, 0, 0, 1, 0), api.Lost{At: 1, Who: []int{1}}, true},
		{some(1, 1, and(not(atMost(0)), not(le(1, -1, 0)))), []api.Choice{choice(3, 0, 1), choice(3, 0, 1)}, table(2, 0, 0, 0, 0), api.Lost{At: 1, Who: []int{3}}, true},
		{some(1, 1, and(not(atMost(0)), not(le(2, -1, 0)))), three, table(3, 0, 0, 0, 0, 0, 0), api.Lost{At: 1, Who: []int{2}}, true}, {some(1, 1, and(not(atMost(0)), not(le(1, -1, 0)))), three, table(3, 0, 0, 0, 0, 0, 0), api.Lost{At: 1}, true},
	} {
		lost, is, e := rules.Return(x.f, x.p, x.t)
		if e != api.OK || is != x.is || !equal(lost, x.lost) {
			t.Error(i, lost, is, e)
		}
	}
}

// drive is a rule, a plant, and a trace of it.
type drive struct {
	f []api.Node
	p []api.Choice
	t [][]int64
}

// drive returns one whose number of choices, to the power of the horizon, is not
// too great.
func (d *dice) drive() drive {
	for {
		p := d.plant(int(d.roll(1, 3)))
		f := d.formula(len(p), d.roll(1, 3))
		traces, choices := 1, len(plainFollows(p, make([]int64, len(p))))
		for range plainHorizon(f) {
			traces = min(traces*choices, 1000)
		}
		if traces < 700 {
			return drive{f, p, d.ride(p, d.roll(1, 6))}
		}
	}
}

// losing returns one that loses the rule, but not with the first row.
func (d *dice) losing() drive {
	for {
		x := d.drive()
		if plainPossible(x.f, x.p, x.t[:1]) && !plainPossible(x.f, x.p, x.t) {
			return x
		}
	}
}

// P6.6, P6.7
func TestReturnPlain(t *testing.T) {
	d := &dice{61}
	lostAt, who := map[int]int{}, map[int]int{}
	for i := range 1500 {
		x := d.drive()
		if i%2 == 0 {
			x = d.losing()
		}
		ok, e := rules.Possible(x.f, x.p, x.t)
		if want := plainPossible(x.f, x.p, x.t); e != api.OK || ok != want {
			t.Fatal(i, x, ok, e)
		}
		lost, is, e := rules.Return(x.f, x.p, x.t)
		want, wantIs := plainReturn(x.f, x.p, x.t)
		if e != api.OK || is != wantIs || is == ok || !equal(lost, want) {
			t.Fatal(i, x, lost, is, e, want)
		}
		if is {
			lostAt[lost.At]++
			who[len(lost.Who)]++
		}
	}
	if lostAt[0] < 100 || lostAt[1] < 100 || lostAt[2] < 100 || lostAt[3] < 20 || who[0] < lostAt[0]+10 || who[1] < 100 || who[2] < 10 {
		t.Error(lostAt, who)
	}
}
