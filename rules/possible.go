package rules

import (
	"slices"

	"kerbstone/api"
)

// search looks for rows behind which a rule is kept.
type search struct {
	rule  []api.Node
	plant []api.Choice
	// rows are those of a trace that decide whether the rule is kept.
	rows [][]int64
}

// newSearch returns the search for a rule, a plant and a trace, or why there is
// none.
func newSearch(f []api.Node, p []api.Choice, t [][]int64) (search, api.Errno) {
	if e := CheckPlant(p); e != api.OK {
		return search{}, e
	}
	if e := Check(f, len(p)); e != api.OK {
		return search{}, e
	}
	if e := CheckTrace(t, len(p)); e != api.OK {
		return search{}, e
	}
	if len(t) == 0 {
		return search{}, api.ErrShort
	}
	far := horizon(f)
	if traces(choices(p), far) > api.MaxSearch {
		return search{}, api.ErrFull
	}
	for i := range len(t) - 1 {
		if !canFollow(p, t[i], t[i+1]) {
			return search{}, api.ErrState
		}
	}
	return search{rule: f, plant: p, rows: t[:min(len(t), int(far)+1)]}, api.OK
}

// traces returns how many lists of choices there are for so many rows. A number
// that is too great need not be exact.
func traces(choices, rows int64) int64 {
	n := int64(1)
	for range rows {
		n = min(n*choices, api.MaxSearch+1)
	}
	return n
}

// Possible reports whether a rule is possible for a plant behind some rows.
func Possible(f []api.Node, p []api.Choice, t [][]int64) (bool, api.Errno) {
	s, e := newSearch(f, p, t)
	if e != api.OK {
		return false, e
	}
	return s.possible(s.rows), api.OK
}

// possible reports whether the rule is possible behind some rows, at least one.
// It ends, since the verdict is not Open any more with the rows of the horizon.
func (s search) possible(rows [][]int64) bool {
	switch verdicts(s.rule, rows).at(0) {
	case api.Yes:
		return true
	case api.No:
		return false
	}
	return slices.ContainsFunc(follows(s.plant, rows[len(rows)-1]), func(next []int64) bool {
		return s.possible(with(rows, next))
	})
}

// with returns the rows, and one more.
func with(rows [][]int64, next []int64) [][]int64 {
	return slices.Concat(rows, [][]int64{next})
}

// Return returns where a rule was no longer possible for the first time, and
// who alone could have kept it; false, if it is possible behind all rows.
func Return(f []api.Node, p []api.Choice, t [][]int64) (api.Lost, bool, api.Errno) {
	s, e := newSearch(f, p, t)
	if e != api.OK {
		return api.Lost{}, false, e
	}
	for n := range s.rows {
		if !s.possible(s.rows[:n+1]) {
			return api.Lost{At: n, Who: s.who(n)}, true, api.OK
		}
	}
	return api.Lost{}, false, api.OK
}

// who returns the owners each of whom alone could have kept the rule possible
// with another row n.
func (s search) who(n int) []int {
	if n == 0 {
		return nil
	}
	before, row := s.rows[:n], s.rows[n]
	var who []int
	for owner := range api.MaxOwner + 1 {
		keeps := func(next []int64) bool {
			return s.differ(owner, row, next) && s.possible(with(before, next))
		}
		if slices.ContainsFunc(follows(s.plant, before[n-1]), keeps) {
			who = append(who, owner)
		}
	}
	return who
}

// differ reports whether two rows differ in columns of this owner alone, if at
// all.
func (s search) differ(owner int, a, b []int64) bool {
	for i, c := range s.plant {
		if c.Owner != owner && a[i] != b[i] {
			return false
		}
	}
	return true
}
