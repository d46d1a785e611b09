package rules_test

import (
	"slices"
	"testing"

	"kerbstone/api"
	"kerbstone/rules"
)

// near returns a number, often one that is only just in a range or out of it.
func (d *dice) near(n int64) int64 {
	return d.pick(n, n, n, n+1, n-1, 0, 1, -1, 9, 12, 20, 21, far, low, 1<<40, 1<<40+1, 1<<20, -1<<20-1, d.roll(-9, 9))
}

// spoilNodes changes something of a formula, now and then.
func (d *dice) spoilNodes(f []api.Node) []api.Node {
	f = slices.Clone(f)
	for range d.pick(0, 0, 1, 2) {
		if len(f) == 0 {
			return f
		}
		k := int(d.roll(0, int64(len(f))-1))
		switch d.roll(0, 8) {
		case 0:
			f[k].Op = int(d.near(int64(f[k].Op)))
		case 1:
			f[k].L = int(d.near(int64(f[k].L)))
		case 2:
			f[k].R = int(d.near(int64(f[k].R)))
		case 3:
			f[k].K = d.near(f[k].K)
		case 4:
			f[k].Lo = d.near(f[k].Lo)
		case 5:
			f[k].Hi = d.near(f[k].Hi)
		case 6:
			f = slices.Delete(f, k, k+1)
		case 7:
			f = slices.Insert(f, k, f[0])
		case 8:
			f = slices.Repeat(f, int(d.roll(0, 9)))
		}
	}
	return f
}

// spoilRows changes something of a trace, now and then.
func (d *dice) spoilRows(t [][]int64) [][]int64 {
	t = slices.Clone(t)
	if len(t) == 0 || d.often(50) {
		return t
	}
	k := int(d.roll(0, int64(len(t))-1))
	switch d.roll(0, 3) {
	case 0:
		t[k] = []int64{d.near(5)}
	case 1:
		t[k] = nil
	case 2:
		t[k] = append(slices.Clone(t[k]), d.near(5))
	case 3:
		t = slices.Repeat(t, int(d.pick(0, 2, 401)))
	}
	return t
}

// spoilPlant changes something of a plant, now and then.
func (d *dice) spoilPlant(p []api.Choice) []api.Choice {
	p = slices.Clone(p)
	if d.often(60) {
		return p
	}
	c := &p[d.roll(0, int64(len(p))-1)]
	switch d.roll(0, 6) {
	case 0:
		c.Owner = int(d.near(int64(c.Owner)))
	case 1:
		c.Lo = d.near(c.Lo)
	case 2:
		c.Hi = d.near(c.Hi)
	case 3:
		c.Min = d.near(c.Min)
	case 4:
		c.Max = d.near(c.Max)
	case 5:
		p = nil
	case 6:
		p = slices.Repeat(p, int(d.roll(0, 14)))
	}
	return p
}

// P1, R3, R5: no arguments make a function panic, or never end; with an error
// every other result is zero.
func TestAnyArguments(t *testing.T) {
	d := &dice{81}
	errors := map[api.Errno]int{}
	zero := func(e api.Errno, results ...bool) {
		errors[e]++
		if e != api.OK && slices.Contains(results, false) {
			t.Error(e, results)
		}
	}
	for range 20000 {
		width := int(d.roll(1, 3))
		f, p := d.spoilNodes(d.formula(width, d.roll(0, 3))), d.spoilPlant(d.plant(width))
		rows := d.spoilRows(d.trace(width, d.roll(0, 4)))
		if d.often(5) {
			width = int(d.near(3))
		}
		zero(rules.Check(f, width))
		zero(rules.CheckTrace(rows, width))
		zero(rules.CheckPlant(p))
		rules.Horizon(f)
		v, e := rules.Eval(f, width, rows, int(d.near(3)))
		zero(e, v == 0)
		w, e := rules.Begin(f, width)
		zero(e, equal(w, api.Watch{}))
		w.From = d.pick(0, d.near(api.MaxTick-2))
		for range 4 {
			var said []api.Said
			w, said, e = rules.Push(w, append(d.spoilRows([][]int64{d.row(len(p))}), nil)[0])
			zero(e, equal(w, api.Watch{}), said == nil)
			if d.often(10) {
				w.Rows, w.Open = d.spoilRows(w.Rows), append(slices.Clone(w.Open), d.near(w.From))
			}
			zero(rules.CheckWatch(w))
		}
		b := slices.Repeat([]api.Law{law(int(d.near(9)), f)}, int(d.roll(0, 9)))
		zero(rules.CheckBook(b, width))
		c, e := rules.Costs(b, width, rows)
		zero(e, c == nil)
		v, e = rules.Better(b, width, rows, d.spoilRows(rows))
		zero(e, v == 0)
		next, e := rules.Follows(p, append(rows, nil)[0])
		zero(e, next == nil)
		ok, e := rules.Possible(f, p, rows)
		zero(e, !ok)
		lost, is, e := rules.Return(f, p, rows)
		zero(e, !is, equal(lost, api.Lost{}))
		s, e := rules.Text(f)
		zero(e, s == "")
		f, e = rules.Parse(s)
		zero(e, f == nil)
	}
	for _, e := range []api.Errno{api.OK, api.ErrRange, api.ErrForm, api.ErrKind, api.ErrLong, api.ErrShort, api.ErrFull, api.ErrState} {
		if errors[e] < 500 {
			t.Error(e, errors[e])
		}
	}
}
