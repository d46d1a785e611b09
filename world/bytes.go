package world

import (
	"kerbstone/api"
	"kerbstone/numbers"
)

// prefix is how the bytes of a state begin.
const prefix = "kbw1"

// Bytes returns the bytes of a state.
func Bytes(s api.State) string {
	w := numbers.NewWriter(prefix)
	w.Put(s.Tick)
	numbers.Write(w, s.Agents, writeAgent)
	numbers.Write(w, s.In, writeStay)
	return w.Text()
}

func writeAgent(w *numbers.Writer, a api.Agent) {
	numbers.Write(w, a.Route, (*numbers.Writer).PutInt)
	w.Put(a.S, a.V, a.Len, a.Begin)
	writeBool(w, a.Obey)
	writeBool(w, a.Gone)
}

func writeBool(w *numbers.Writer, b bool) {
	if b {
		w.Put(1)
	} else {
		w.Put(0)
	}
}

func writeStay(w *numbers.Writer, x api.Stay) {
	w.Put(int64(x.Agent), int64(x.Zone), x.Since, int64(x.Rank))
}

// Read returns the state that has these bytes.
func Read(b string) (api.State, api.Errno) {
	r, ok := numbers.NewReader(b, prefix)
	if !ok {
		return api.State{}, api.ErrForm
	}
	s := api.State{
		Tick:   r.Next(),
		Agents: numbers.Read(r, api.MaxAgents, readAgent),
		In:     numbers.Read(r, api.MaxAgents*api.MaxZones, readStay),
	}
	// The reader only guesses a state: it has been right if b is what Bytes
	// makes of it.
	if Bytes(s) != b {
		return api.State{}, api.ErrForm
	}
	return s, api.OK
}

// Go evaluates calls from left to right, so that the fields are read in the
// order in which they are written here.

func readAgent(r *numbers.Reader) api.Agent {
	return api.Agent{
		Route: numbers.Read(r, api.MaxRoute, (*numbers.Reader).NextInt),
		S:     r.Next(),
		V:     r.Next(),
		Len:   r.Next(),
		Begin: r.Next(),
		Obey:  r.Next() == 1,
		Gone:  r.Next() == 1,
	}
}

func readStay(r *numbers.Reader) api.Stay {
	return api.Stay{Agent: r.NextInt(), Zone: r.NextInt(), Since: r.Next(), Rank: r.NextInt()}
}
