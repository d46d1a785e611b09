package rules_test

import (
	"slices"

	"kerbstone/api"
)

// What the functions return is computed here in another way: as plain as
// possible, and without regard to time.

// tree is a formula as a tree.
type tree struct {
	api.Node
	a, b *tree
}

// grow returns the tree of a valid formula.
func grow(f []api.Node) *tree {
	x, _ := grown(f)
	return x
}

func grown(f []api.Node) (*tree, []api.Node) {
	x := &tree{Node: f[0]}
	f = f[1:]
	if x.Op >= api.OpNot {
		x.a, f = grown(f)
	}
	if x.Op == api.OpAnd || x.Op == api.OpOr || x.Op == api.OpUntil {
		x.b, f = grown(f)
	}
	return x, f
}

// plainHorizon returns the horizon of a formula.
func plainHorizon(f []api.Node) int64 { return grow(f).horizon() }

func (x *tree) horizon() int64 {
	var a, b int64
	if x.a != nil {
		a = x.a.horizon()
	}
	if x.b != nil {
		b = x.b.horizon()
	}
	switch x.Op {
	case api.OpAlways, api.OpSome:
		return x.Hi + a
	case api.OpUntil:
		if x.Hi > 0 && a-1 > b {
			return x.Hi + a - 1
		}
		return x.Hi + b
	}
	return max(a, b)
}

// holds reports whether a formula holds at a position if each row behind the
// last one were as good for it as it can be, or as bad.
func (x *tree) holds(t [][]int64, i int, good bool) bool {
	to := func(k int64) int { return i + int(k) }
	switch x.Op {
	case api.OpTrue:
		return true
	case api.OpLess:
		if i >= len(t) {
			return good
		}
		if x.R == -1 {
			return t[i][x.L] <= x.K
		}
		return t[i][x.L]-t[i][x.R] <= x.K
	case api.OpNot:
		return !x.a.holds(t, i, !good)
	case api.OpAnd:
		return x.a.holds(t, i, good) && x.b.holds(t, i, good)
	case api.OpOr:
		return x.a.holds(t, i, good) || x.b.holds(t, i, good)
	case api.OpAlways:
		for k := x.Lo; k <= x.Hi; k++ {
			if !x.a.holds(t, to(k), good) {
				return false
			}
		}
		return true
	case api.OpSome:
		for k := x.Lo; k <= x.Hi; k++ {
			if x.a.holds(t, to(k), good) {
				return true
			}
		}
		return false
	}
	for k := int64(0); k <= x.Hi; k++ {
		if k >= x.Lo && x.b.holds(t, to(k), good) {
			return true
		}
		if !x.a.holds(t, to(k), good) {
			return false
		}
	}
	return false
}

// plainVerdict returns the verdict of a formula at a position.
func plainVerdict(f []api.Node, t [][]int64, i int) int {
	x := grow(f)
	switch {
	case x.holds(t, i, false):
		return api.Yes
	case !x.holds(t, i, true):
		return api.No
	}
	return api.Open
}

// plainWatch returns the watch that has seen a trace.
func plainWatch(f []api.Node, width int, t [][]int64) api.Watch {
	w := api.Watch{Nodes: f, Width: width, From: int64(len(t))}
	for i := range t {
		if plainVerdict(f, t, i) == api.Open {
			w.Open = append(w.Open, int64(i))
		}
	}
	if len(w.Open) > 0 {
		w.From = w.Open[0]
	}
	w.Rows = t[w.From:]
	return w
}

// plainCosts returns the costs of a book.
func plainCosts(b []api.Law, t [][]int64) []int64 {
	c := make([]int64, 10)
	for i := range t {
		for _, l := range b {
			if plainVerdict(l.Nodes, t, i) == api.No {
				c[l.Rank]++
			}
		}
	}
	return c
}

// plainFollows returns all rows that can follow a row: a list of changes is
// counted as a number whose digits are the changes.
func plainFollows(p []api.Choice, row []int64) [][]int64 {
	count := int64(1)
	for _, c := range p {
		count *= c.Hi - c.Lo + 1
	}
	var rows [][]int64
	for n := range count {
		next := slices.Clone(row)
		for i, c := range slices.Backward(p) {
			v := row[i] + c.Lo + n%(c.Hi-c.Lo+1)
			n /= c.Hi - c.Lo + 1
			if v < c.Min {
				v = c.Min
			}
			if v > c.Max {
				v = c.Max
			}
			next[i] = v
		}
		rows = append(rows, next)
	}
	return rows
}

// plainPossible reports whether a rule is kept at the end of its horizon behind
// some rows.
func plainPossible(f []api.Node, p []api.Choice, t [][]int64) bool {
	if int64(len(t)) > plainHorizon(f) {
		return plainVerdict(f, t, 0) == api.Yes
	}
	for _, next := range plainFollows(p, t[len(t)-1]) {
		if plainPossible(f, p, slices.Concat(t, [][]int64{next})) {
			return true
		}
	}
	return false
}

// plainReturn returns where a rule is lost, and by whom.
func plainReturn(f []api.Node, p []api.Choice, t [][]int64) (api.Lost, bool) {
	if plainPossible(f, p, t) {
		return api.Lost{}, false
	}
	n := 0
	for plainPossible(f, p, t[:n+1]) {
		n++
	}
	lost := api.Lost{At: n}
	for owner := 0; owner <= 3 && n > 0; owner++ {
		for _, next := range plainFollows(p, t[n-1]) {
			if saves(f, p, t[:n], t[n], next, owner) {
				lost.Who = append(lost.Who, owner)
				break
			}
		}
	}
	return lost, true
}

// saves reports whether another row next, in the place of row, is one that this
// owner alone could have chosen, and behind which a rule is possible.
func saves(f []api.Node, p []api.Choice, before [][]int64, row, next []int64, owner int) bool {
	for i, c := range p {
		if c.Owner != owner && next[i] != row[i] {
			return false
		}
	}
	return plainPossible(f, p, slices.Concat(before, [][]int64{next}))
}
