package rules_test

import (
	"slices"
	"strings"
	"testing"

	"kerbstone/api"
	"kerbstone/rules"
)

// P6.9, P6.10
func TestVerdictsStay(t *testing.T) {
	d := &dice{91}
	for i := range 3000 {
		width := int(d.roll(1, 2))
		f := d.formula(width, d.roll(0, 3))
		rows := d.trace(width, d.roll(0, 20))
		for at := range len(rows) + 3 {
			before := api.Open
			for n := range len(rows) + 1 {
				v := eval(t, f, width, rows[:n], at)
				if before != api.Open && v != before {
					t.Fatal(i, f, rows, at, n, before, v)
				}
				if v == api.Open && int64(n-1-at) >= rules.Horizon(f) {
					t.Fatal(i, f, rows, at, n)
				}
				before = v
			}
		}
	}
}

// P6.10: with one row less than the horizon says, a verdict may be Open.
func TestHorizonIsNeeded(t *testing.T) {
	for i, f := range [][]api.Node{
		atMost(5), not(atMost(5)), some(2, 7, atMost(4)), always(0, 20, atMost(5)), and(always(0, 3, atMost(5)), some(0, 5, atMost(4))), or(some(0, 6, atMost(4)), some(0, 5, atMost(4))),
		until(0, 9, atMost(5), some(0, 3, atMost(4))), until(4, 4, always(0, 9, atMost(5)), yes()), until(1, 1, always(0, 9, atMost(5)), yes()), until(0, 0, always(0, 9, atMost(5)), atMost(5)), times(3, api.Node{Op: api.OpAlways, Lo: 20, Hi: 20}, atMost(5)),
	} {
		rows := slices.Repeat(trace(5), int(rules.Horizon(f))+1)
		if v := eval(t, f, 1, rows, 0); v == api.Open {
			t.Error(i, v)
		}
		if v := eval(t, f, 1, rows[1:], 0); v != api.Open {
			t.Error(i, v)
		}
	}
}

// P6.11
func TestWatchAgrees(t *testing.T) {
	d := &dice{92}
	for i := range 2000 {
		width := int(d.roll(1, 2))
		f := d.formula(width, d.roll(0, 3))
		rows := d.trace(width, d.roll(1, 25))
		w := begin(t, f, width)
		given := map[int64]bool{}
		for n := range rows {
			var said []api.Said
			w, said = push(t, w, rows[n])
			for _, x := range said {
				if given[x.At] || x.At < 0 || x.At > int64(n) {
					t.Fatal(i, n, x)
				}
				given[x.At] = true
				if v := eval(t, f, width, rows[:n+1], int(x.At)); v == api.Open || (v == api.Yes) != x.Yes {
					t.Fatal(i, n, x, v)
				}
			}
			for at := range n + 1 {
				if given[int64(at)] == (eval(t, f, width, rows[:n+1], at) == api.Open) {
					t.Fatal(i, n, at)
				}
			}
			if !slices.IsSortedFunc(said, func(a, b api.Said) int { return int(a.At - b.At) }) {
				t.Fatal(i, n, said)
			}
		}
	}
}

// P6.12
func TestEqualFormulas(t *testing.T) {
	d := &dice{93}
	for i := range 3000 {
		width := int(d.roll(1, 2))
		a, b := d.formula(width, d.roll(0, 2)), d.formula(width, d.roll(0, 2))
		lo := d.roll(0, 3)
		hi := lo + d.roll(0, 3)
		rows := d.trace(width, d.roll(0, 10))
		for n, x := range []struct{ f, g []api.Node }{
			{always(lo, hi, a), not(some(lo, hi, not(a)))}, {some(lo, hi, a), not(always(lo, hi, not(a)))}, {and(a, b), not(or(not(a), not(b)))}, {or(a, b), not(and(not(a), not(b)))},
			{always(0, 0, a), a}, {some(0, 0, a), a}, {until(lo, hi, yes(), b), some(lo, hi, b)}, {not(not(a)), a},
		} {
			for at := range len(rows) + 3 {
				if v, w := eval(t, x.f, width, rows, at), eval(t, x.g, width, rows, at); v != w {
					t.Fatal(i, n, x, rows, at, v, w)
				}
			}
		}
	}
}

// P6.13
func TestBetterOrders(t *testing.T) {
	d := &dice{94}
	for i := range 1000 {
		b := d.book(2)
		better := func(x, y [][]int64) int {
			v, e := rules.Better(b, 2, x, y)
			if e != api.OK {
				t.Fatal(e)
			}
			return v
		}
		x, y, z := d.trace(2, d.roll(0, 5)), d.trace(2, d.roll(0, 5)), d.trace(2, d.roll(0, 5))
		if better(x, y) != -better(y, x) || better(x, x) != 0 || better(nil, x) == 1 {
			t.Fatal(i, b, x, y)
		}
		if better(x, y) <= 0 && better(y, z) <= 0 && better(x, z) > min(better(x, y), better(y, z)) {
			t.Fatal(i, b, x, y, z)
		}
		p, _ := rules.Costs(b, 2, x)
		q, _ := rules.Costs(b, 2, y)
		if (better(x, y) == 0) != slices.Equal(p, q) {
			t.Fatal(i, p, q)
		}
	}
}

// possible reports whether a rule is possible where there is no error.
func possible(t *testing.T, x drive, rows [][]int64) bool {
	t.Helper()
	ok, e := rules.Possible(x.f, x.p, rows)
	if e != api.OK {
		t.Fatal(e)
	}
	return ok
}

// P6.14
func TestPointOfNoReturn(t *testing.T) {
	d := &dice{95}
	for i := range 1000 {
		x := d.drive()
		if i%2 == 0 {
			x = d.losing()
		}
		lost, is, e := rules.Return(x.f, x.p, x.t)
		if e != api.OK {
			t.Fatal(e)
		}
		for n := range x.t {
			if possible(t, x, x.t[:n+1]) != (!is || n < lost.At) {
				t.Fatal(i, x, lost, is, n)
			}
		}
		if v := eval(t, x.f, len(x.p), x.t, 0); v == api.No && !is || v == api.Yes && is || int64(len(x.t)) > rules.Horizon(x.f) && is != (v == api.No) {
			t.Fatal(i, x, lost, is, v)
		}
	}
}

// P6.15: who is in Who had another choice that kept the rule possible, with what
// all others did; who is not had none.
func TestWhoCouldKeep(t *testing.T) {
	d := &dice{96}
	for i := range 600 {
		x := d.losing()
		lost, is, e := rules.Return(x.f, x.p, x.t)
		if e != api.OK || !is || lost.At == 0 || !slices.IsSorted(lost.Who) || len(slices.Compact(slices.Clone(lost.Who))) != len(lost.Who) {
			t.Fatal(i, x, lost, is, e)
		}
		next, _ := rules.Follows(x.p, x.t[lost.At-1])
		for owner := range 6 {
			could := false
			for _, row := range next {
				own := true
				for k, c := range x.p {
					own = own && (c.Owner == owner || row[k] == x.t[lost.At][k])
				}
				could = could || own && possible(t, x, append(slices.Clone(x.t[:lost.At]), row))
			}
			if could != slices.Contains(lost.Who, owner) {
				t.Fatal(i, x, lost, owner)
			}
		}
	}
}

// P6.16
func TestTextIsRead(t *testing.T) {
	d := &dice{97}
	for i := range 5000 {
		f := d.formula(12, d.roll(0, 4))
		s, e := rules.Text(f)
		if e != rules.Check(f, 12) {
			t.Fatal(i, e)
		}
		if e != api.OK {
			continue
		}
		if g, e := rules.Parse(s); e != api.OK || !slices.Equal(f, g) {
			t.Fatal(i, s, g, e)
		}
	}
}

// P6.16: texts that were changed a little are read as they are, or not at all.
func TestParsedIsWritten(t *testing.T) {
	d := &dice{98}
	words := strings.Split("true le not and or always some until 0 1 -1 -0 00 01 20 21 5  + - x le", " ")
	read := 0
	for i := range 30000 {
		s, e := rules.Text(d.formula(3, d.roll(0, 3)))
		if e != api.OK {
			continue
		}
		for range d.roll(1, 3) {
			l := strings.Split(s, " ")
			k := int(d.roll(0, int64(len(l))-1))
			switch word := words[d.roll(0, int64(len(words))-1)]; d.roll(0, 3) {
			case 0:
				l[k] = word
			case 1:
				l = slices.Insert(l, k, word)
			case 2:
				l = slices.Delete(l, k, k+1)
			case 3:
				l[k] += word[:min(1, len(word))]
			}
			s = strings.Join(l, " ")
		}
		f, e := rules.Parse(s)
		if e != api.OK {
			if f != nil {
				t.Fatal(i, s, f, e)
			}
			continue
		}
		read++
		if back, e := rules.Text(f); e != api.OK || back != s {
			t.Fatal(i, s, back, e)
		}
	}
	if read < 1000 {
		t.Error(read)
	}
}
