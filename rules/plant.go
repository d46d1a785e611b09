package rules

import (
	"slices"

	"kerbstone/api"
)

// CheckPlant returns the first reason for which a plant is not valid, otherwise
// OK.
func CheckPlant(p []api.Choice) api.Errno {
	if len(p) == 0 {
		return api.ErrShort
	}
	if len(p) > api.MaxWidth {
		return api.ErrFull
	}
	for _, c := range p {
		if !within(0, c.Owner, api.MaxOwner) || !ordered(c.Lo, c.Hi, api.MaxChange) || !ordered(c.Min, c.Max, api.MaxValue) {
			return api.ErrRange
		}
	}
	if choices(p) > api.MaxChoices {
		return api.ErrFull
	}
	return api.OK
}

// ordered reports whether lo and hi are numbers from -most to most, in this
// order.
func ordered(lo, hi, most int64) bool {
	return -most <= lo && lo <= hi && hi <= most
}

// choices returns the number of choices of a plant. One that is too great need
// not be exact.
func choices(p []api.Choice) int64 {
	n := int64(1)
	for _, c := range p {
		n = min(n*(c.Hi-c.Lo+1), api.MaxChoices+1)
	}
	return n
}

// Follows returns all rows that can follow a row.
func Follows(p []api.Choice, row []int64) ([][]int64, api.Errno) {
	if e := CheckPlant(p); e != api.OK {
		return nil, e
	}
	if e := CheckTrace([][]int64{row}, len(p)); e != api.OK {
		return nil, e
	}
	return follows(p, row), api.OK
}

// follows returns a row for each list of changes, in their order.
func follows(p []api.Choice, row []int64) [][]int64 {
	var rows [][]int64
	var next []int64
	var choose func()
	choose = func() {
		column := len(next)
		if column == len(p) {
			rows = append(rows, slices.Clone(next))
			return
		}
		for change := p[column].Lo; change <= p[column].Hi; change++ {
			next = append(next, changed(p[column], row[column], change))
			choose()
			next = next[:column]
		}
	}
	choose()
	return rows
}

// changed returns a value after a change.
func changed(c api.Choice, v, change int64) int64 {
	return min(max(v+change, c.Min), c.Max)
}

// canFollow reports whether a row can follow the one before.
func canFollow(p []api.Choice, before, row []int64) bool {
	for i, c := range p {
		// Each value between the outermost ones can be chosen, too.
		if !within(changed(c, before[i], c.Lo), row[i], changed(c, before[i], c.Hi)) {
			return false
		}
	}
	return true
}
