package rules_test

import (
	"math"
	"reflect"
	"slices"

	"kerbstone/api"
)

// far and low are numbers that are in no range.
const far, low = math.MaxInt64, math.MinInt64

// Formulas are made of their parts.

func yes() []api.Node { return []api.Node{{Op: api.OpTrue}} }

func le(l, r int, k int64) []api.Node { return []api.Node{{Op: api.OpLess, L: l, R: r, K: k}} }

func not(a []api.Node) []api.Node { return slices.Concat([]api.Node{{Op: api.OpNot}}, a) }

func and(a, b []api.Node) []api.Node { return slices.Concat([]api.Node{{Op: api.OpAnd}}, a, b) }

func or(a, b []api.Node) []api.Node { return slices.Concat([]api.Node{{Op: api.OpOr}}, a, b) }

func always(lo, hi int64, a []api.Node) []api.Node {
	return slices.Concat([]api.Node{{Op: api.OpAlways, Lo: lo, Hi: hi}}, a)
}

func some(lo, hi int64, a []api.Node) []api.Node {
	return slices.Concat([]api.Node{{Op: api.OpSome, Lo: lo, Hi: hi}}, a)
}

func until(lo, hi int64, a, b []api.Node) []api.Node {
	return slices.Concat([]api.Node{{Op: api.OpUntil, Lo: lo, Hi: hi}}, a, b)
}

// atMost makes the formula that the first column is at most k.
func atMost(k int64) []api.Node { return le(0, -1, k) }

// no is a formula that never holds.
func no() []api.Node { return not(yes()) }

// times puts a node in front of a formula so many times.
func times(count int, n api.Node, f []api.Node) []api.Node {
	return slices.Concat(slices.Repeat([]api.Node{n}, count), f)
}

// trace makes a trace with one column.
func trace(values ...int64) [][]int64 { return table(1, values...) }

// table makes a trace with this many columns.
func table(width int, values ...int64) [][]int64 {
	var t [][]int64
	for row := range slices.Chunk(values, width) {
		t = append(t, slices.Clone(row))
	}
	return t
}

// law makes a law.
func law(rank int, f []api.Node) api.Law { return api.Law{Rank: rank, Nodes: f} }

// choice makes a choice of values from 0 to 9.
func choice(owner int, lo, hi int64) api.Choice {
	return api.Choice{Owner: owner, Lo: lo, Hi: hi, Min: 0, Max: 9}
}

// plantP and plantQ are the plants of the chapter's examples.
func plantP() []api.Choice { return []api.Choice{choice(0, -1, 1)} }

func plantQ() []api.Choice { return []api.Choice{choice(0, 0, 1), choice(1, 0, 2)} }

// equal reports whether two values are equal; nil lists are equal to empty ones.
func equal(a, b any) bool { return same(reflect.ValueOf(a), reflect.ValueOf(b)) }

func same(a, b reflect.Value) bool {
	switch a.Kind() {
	case reflect.Struct:
		for i := range a.NumField() {
			if !same(a.Field(i), b.Field(i)) {
				return false
			}
		}
		return true
	case reflect.Slice:
		if a.Len() != b.Len() {
			return false
		}
		for i := range a.Len() {
			if !same(a.Index(i), b.Index(i)) {
				return false
			}
		}
		return true
	}
	return a.Interface() == b.Interface()
}

// dice are numbers that look random, and are the same in each run.
type dice struct{ state uint64 }

// roll returns a number from lo to hi.
func (d *dice) roll(lo, hi int64) int64 {
	d.state ^= d.state << 13
	d.state ^= d.state >> 7
	d.state ^= d.state << 17
	return lo + int64((d.state>>8)%uint64(hi-lo+1))
}

// pick returns one of the numbers.
func (d *dice) pick(l ...int64) int64 { return l[d.roll(0, int64(len(l))-1)] }

// often reports true in so many of a hundred cases.
func (d *dice) often(percent int64) bool { return d.roll(1, 100) <= percent }

// formula returns a valid formula for this width, whose nesting has at most this
// depth; its bounds are at most 4. Its comparisons are about values from 0 to 9.
func (d *dice) formula(width int, depth int64) []api.Node {
	if depth == 0 || d.often(10) {
		if d.often(10) {
			return yes()
		}
		l, r := int(d.roll(0, int64(width)-1)), int(d.roll(-1, int64(width)-1))
		if r < 0 {
			return le(l, r, d.roll(-1, 9))
		}
		return le(l, r, d.roll(-6, 6))
	}
	a := d.formula(width, depth-1)
	lo := d.pick(0, 0, 1, 2)
	hi := lo + d.pick(0, 1, 2)
	switch d.roll(0, 5) {
	case 0:
		return not(a)
	case 1:
		return and(a, d.formula(width, depth-1))
	case 2:
		return or(a, d.formula(width, depth-1))
	case 3:
		return always(lo, hi, a)
	case 4:
		return some(lo, hi, a)
	default:
		return until(lo, hi, a, d.formula(width, depth-1))
	}
}

// trace returns a trace of values from 0 to 9.
func (d *dice) trace(width int, rows int64) [][]int64 {
	var t [][]int64
	for range rows {
		t = append(t, d.row(width))
	}
	return t
}

// row returns a row of values from 0 to 9.
func (d *dice) row(width int) []int64 {
	var row []int64
	for range width {
		row = append(row, d.roll(0, 9))
	}
	return row
}

// plant returns a valid plant with values from 0 to 9 or so.
func (d *dice) plant(width int) []api.Choice {
	for {
		var p []api.Choice
		count := int64(1)
		for range width {
			lo := d.roll(-2, 1)
			c := api.Choice{Owner: int(d.roll(0, 3)), Lo: lo, Hi: lo + d.pick(0, 0, 1, 1, 2, 3), Min: d.roll(0, 4), Max: d.roll(5, 9)}
			p, count = append(p, c), count*(c.Hi-c.Lo+1)
		}
		if count <= 9 {
			return p
		}
	}
}

// ride returns a trace in which each row follows the one before.
func (d *dice) ride(p []api.Choice, rows int64) [][]int64 {
	t := [][]int64{d.row(len(p))}
	for len(t) < int(rows) {
		next := plainFollows(p, t[len(t)-1])
		t = append(t, next[d.roll(0, int64(len(next))-1)])
	}
	return t
}
