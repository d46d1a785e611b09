package rules

import "kerbstone/api"

// Check returns the first reason for which f is not a valid formula for rows of
// this width, otherwise OK.
func Check(f []api.Node, width int) api.Errno {
	if e := checkForm(f, width); e != api.OK {
		return e
	}
	if horizon(f) > api.MaxHorizon {
		return api.ErrFull
	}
	return api.OK
}

// checkForm returns why f is not a valid formula, but for its horizon.
func checkForm(f []api.Node, width int) api.Errno {
	if e := checkWidth(width); e != api.OK {
		return e
	}
	if len(f) > api.MaxNodes {
		return api.ErrLong
	}
	for _, n := range f {
		if e := checkNode(n, width); e != api.OK {
			return e
		}
	}
	return checkOne(f)
}

func checkWidth(width int) api.Errno {
	if !within(1, width, api.MaxWidth) {
		return api.ErrRange
	}
	return api.OK
}

func checkNode(n api.Node, width int) api.Errno {
	used := api.Node{Op: n.Op}
	valid := true
	switch n.Op {
	case api.OpTrue, api.OpNot, api.OpAnd, api.OpOr:
	case api.OpLess:
		used.L, used.R, used.K = n.L, n.R, n.K
		valid = within(0, n.L, width-1) && within(-1, n.R, width-1) && within(-2*api.MaxValue, n.K, 2*api.MaxValue)
	case api.OpAlways, api.OpSome, api.OpUntil:
		used.Lo, used.Hi = n.Lo, n.Hi
		valid = within(0, n.Lo, n.Hi) && n.Hi <= api.MaxSpan
	default:
		return api.ErrKind
	}
	if n != used {
		return api.ErrForm
	}
	if !valid {
		return api.ErrRange
	}
	return api.OK
}

// checkOne returns why nodes are not just one formula in prefix order.
func checkOne(f []api.Node) api.Errno {
	missing := 1
	for _, n := range f {
		if missing == 0 {
			return api.ErrLong
		}
		missing += parts(n.Op) - 1
	}
	if missing > 0 {
		return api.ErrShort
	}
	return api.OK
}

// CheckTrace returns the first reason for which t is not a trace of this width,
// otherwise OK.
func CheckTrace(t [][]int64, width int) api.Errno {
	if e := checkWidth(width); e != api.OK {
		return e
	}
	if len(t) > api.MaxRows {
		return api.ErrFull
	}
	for _, row := range t {
		if e := checkRow(row, width); e != api.OK {
			return e
		}
	}
	return api.OK
}

func checkRow(row []int64, width int) api.Errno {
	if len(row) != width {
		return api.ErrForm
	}
	for _, v := range row {
		if !within(-api.MaxValue, v, api.MaxValue) {
			return api.ErrRange
		}
	}
	return api.OK
}

// Horizon returns how many rows behind a position decide a formula there; 0,
// if it is not one that is valid but for its horizon.
func Horizon(f []api.Node) int64 {
	if checkForm(f, api.MaxWidth) != api.OK {
		return 0
	}
	return horizon(f)
}

func horizon(f []api.Node) int64 {
	return fold(f, func(n api.Node, a, b int64) int64 {
		switch n.Op {
		case api.OpNot, api.OpAnd, api.OpOr:
			return max(a, b)
		case api.OpAlways, api.OpSome:
			return n.Hi + a
		case api.OpUntil:
			if n.Hi == 0 {
				return b
			}
			return max(n.Hi+b, n.Hi-1+a)
		default:
			return 0
		}
	})
}
