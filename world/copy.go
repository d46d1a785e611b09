package world

import (
	"slices"

	"kerbstone/api"
)

// Same reports whether two states are equal in everything.
func Same(a, b api.State) bool {
	return a.Tick == b.Tick && slices.EqualFunc(a.Agents, b.Agents, sameAgent) && slices.Equal(a.In, b.In)
}

func sameAgent(a, b api.Agent) bool {
	return slices.Equal(a.Route, b.Route) &&
		a.S == b.S && a.V == b.V && a.Len == b.Len && a.Begin == b.Begin &&
		a.Obey == b.Obey && a.Gone == b.Gone
}

// Copy returns an equal state, in memory of its own.
func Copy(s api.State) api.State {
	to := api.State{Tick: s.Tick, In: slices.Clone(s.In)}
	for _, a := range s.Agents {
		to.Agents = append(to.Agents, copyAgent(a))
	}
	return to
}

func copyAgent(a api.Agent) api.Agent {
	a.Route = slices.Clone(a.Route)
	return a
}
