package plan

import "kerbstone/api"

// Search returns the first of the candidates that is verified, if there is one
// among so many as the budget allows, and how many it looked at.
func Search(m api.Map, route []int, c api.Car, k api.Know, queue []int64, last int64, budget int, signals bool) (api.Plan, int, bool) {
	t, valid := newTrial(m, route, c, k, signals)
	var found api.Plan
	looked, ok := 0, false
search:
	for _, p := range Candidates(c, queue, last, k.Ego.VHi) {
		switch {
		case looked >= budget:
			break search
		case !valid || !t.verify(p).OK:
			looked++
		default:
			looked++
			found, ok = p, true
			break search
		}
	}
	return found, looked, ok
}
