package rules

import (
	"slices"

	"kerbstone/api"
)

// Begin returns a watch of a formula that has seen no rows.
func Begin(f []api.Node, width int) (api.Watch, api.Errno) {
	if e := Check(f, width); e != api.OK {
		return api.Watch{}, e
	}
	return api.Watch{Nodes: slices.Clone(f), Width: width}, api.OK
}

// CheckWatch returns the first reason for which a watch is not valid, otherwise
// OK.
func CheckWatch(w api.Watch) api.Errno {
	if e := Check(w.Nodes, w.Width); e != api.OK {
		return e
	}
	if e := CheckTrace(w.Rows, w.Width); e != api.OK {
		return e
	}
	if !within(0, w.From, api.MaxTick) {
		return api.ErrRange
	}
	open := opened(w.From, verdicts(w.Nodes, w.Rows))
	if !slices.Equal(w.Open, open) {
		return api.ErrState
	}
	if len(w.Rows) > 0 && !slices.Contains(open, w.From) {
		return api.ErrState
	}
	return api.OK
}

// opened returns the numbers of the rows, from this one on, at which a verdict
// is Open.
func opened(from int64, l line) []int64 {
	var open []int64
	for i := range len(l) - 1 {
		if l[i] == api.Open {
			open = append(open, from+int64(i))
		}
	}
	return open
}

// Push returns a watch that has seen one row more, and what it says now.
func Push(w api.Watch, row []int64) (api.Watch, []api.Said, api.Errno) {
	if e := CheckWatch(w); e != api.OK {
		return api.Watch{}, nil, e
	}
	if e := CheckTrace([][]int64{row}, w.Width); e != api.OK {
		return api.Watch{}, nil, e
	}
	last := w.From + int64(len(w.Rows))
	if last >= api.MaxTick {
		return api.Watch{}, nil, api.ErrFull
	}
	rows := slices.Concat(w.Rows, [][]int64{row})
	l := verdicts(w.Nodes, rows)
	var said []api.Said
	for _, at := range slices.Concat(w.Open, []int64{last}) {
		if v := l[at-w.From]; v != api.Open {
			said = append(said, api.Said{At: at, Yes: v == api.Yes})
		}
	}
	to := api.Watch{Nodes: slices.Clone(w.Nodes), Width: w.Width, From: last + 1, Open: opened(w.From, l)}
	if len(to.Open) > 0 {
		to.From = to.Open[0]
	}
	to.Rows = copied(rows[to.From-w.From:])
	return to, said, api.OK
}

// copied returns equal rows that share no memory with these.
func copied(rows [][]int64) [][]int64 {
	var all [][]int64
	for _, row := range rows {
		all = append(all, slices.Clone(row))
	}
	return all
}
