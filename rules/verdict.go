package rules

import "kerbstone/api"

// Eval returns the verdict of a formula at a position of a trace.
func Eval(f []api.Node, width int, t [][]int64, at int) (int, api.Errno) {
	if e := Check(f, width); e != api.OK {
		return 0, e
	}
	if e := CheckTrace(t, width); e != api.OK {
		return 0, e
	}
	if at < 0 {
		return 0, api.ErrRange
	}
	return verdicts(f, t).at(at), api.OK
}

// line has the verdicts of a formula at all positions of a trace, and behind
// them one that it has at each position behind the last row.
type line []int

// at returns the verdict at a position.
func (l line) at(i int) int {
	return l[min(i, len(l)-1)]
}

// verdicts returns the verdicts of a formula over a trace.
func verdicts(f []api.Node, t [][]int64) line {
	return fold(f, func(n api.Node, a, b line) line {
		l := make(line, len(t)+1)
		for i := range l {
			l[i] = verdict(n, a, b, t, i)
		}
		return l
	})
}

// verdict returns the verdict of a node at a position, made of those of its
// parts.
func verdict(n api.Node, a, b line, t [][]int64, i int) int {
	switch n.Op {
	case api.OpLess:
		return compared(n, t, i)
	case api.OpNot:
		return negated(a.at(i))
	case api.OpAnd, api.OpOr:
		return worst(decisive(n.Op))(a.at(i), b.at(i))
	case api.OpAlways, api.OpSome:
		return a.between(i+int(n.Lo), i+int(n.Hi), decisive(n.Op))
	case api.OpUntil:
		return until(n, a, b, i)
	default:
		return api.Yes
	}
}

// compared returns the verdict of a comparison.
func compared(n api.Node, t [][]int64, i int) int {
	if i >= len(t) {
		return api.Open
	}
	v := t[i][n.L]
	if n.R >= 0 {
		v -= t[i][n.R]
	}
	if v <= n.K {
		return api.Yes
	}
	return api.No
}

// decisive returns the verdict that one part alone gives to an operator.
func decisive(op int) int {
	switch op {
	case api.OpAnd, api.OpAlways:
		return api.No
	default:
		return api.Yes
	}
}

// negated exchanges Yes and No.
func negated(v int) int {
	switch v {
	case api.Yes:
		return api.No
	case api.No:
		return api.Yes
	default:
		return api.Open
	}
}

// worst returns a function that takes verdicts, and returns the worst one of
// all that it has taken so far: the decisive one is the worst, and Open is worse
// than the other one.
func worst(decisive int) func(l ...int) int {
	so := negated(decisive)
	return func(l ...int) int {
		for _, v := range l {
			if v == decisive || v == api.Open && so != decisive {
				so = v
			}
		}
		return so
	}
}

// between returns the worst verdict at the positions from lo to hi.
func (l line) between(lo, hi, decisive int) int {
	behind := len(l) - 1
	return worst(decisive)(l[min(lo, behind) : min(hi, behind)+1]...)
}

// until returns the verdict of an OpUntil.
func until(n api.Node, a, b line, i int) int {
	some, all := worst(api.Yes), worst(api.No)
	for k := range int(n.Hi) + 1 {
		if k >= int(n.Lo) {
			some(worst(api.No)(all(), b.at(i+k)))
		}
		all(a.at(i + k))
	}
	return some()
}
