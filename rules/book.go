package rules

import (
	"cmp"

	"kerbstone/api"
)

// ranks is how many ranks there are.
const ranks = 10

// CheckBook returns the first reason for which a book is not valid for this
// width, otherwise OK.
func CheckBook(b []api.Law, width int) api.Errno {
	if len(b) > api.MaxLaws {
		return api.ErrFull
	}
	for _, law := range b {
		if !within(0, law.Rank, ranks-1) {
			return api.ErrRange
		}
		if e := Check(law.Nodes, width); e != api.OK {
			return e
		}
	}
	return checkWidth(width)
}

// Costs returns the costs of all ranks for a trace.
func Costs(b []api.Law, width int, t [][]int64) ([]int64, api.Errno) {
	c, e := costs(b, width, t)
	if e != api.OK {
		return nil, e
	}
	return c[:], api.OK
}

// costs returns, for each rank, at how many positions of a trace its laws are
// not kept.
func costs(b []api.Law, width int, t [][]int64) ([ranks]int64, api.Errno) {
	var c [ranks]int64
	if e := CheckBook(b, width); e != api.OK {
		return c, e
	}
	if e := CheckTrace(t, width); e != api.OK {
		return c, e
	}
	for _, law := range b {
		for _, v := range verdicts(law.Nodes, t)[:len(t)] {
			if v == api.No {
				c[law.Rank]++
			}
		}
	}
	return c, api.OK
}

// Better returns -1 if the trace t is better than u, 1 if u is better than t,
// and 0 if neither is.
func Better(b []api.Law, width int, t, u [][]int64) (int, api.Errno) {
	x, e := costs(b, width, t)
	if e != api.OK {
		return 0, e
	}
	y, e := costs(b, width, u)
	if e != api.OK || x == y {
		return 0, e
	}
	first := 0
	for x[first] == y[first] {
		first++
	}
	return cmp.Compare(x[first], y[first]), api.OK
}
