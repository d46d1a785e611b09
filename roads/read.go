package roads

import (
	"kerbstone/api"
	"kerbstone/numbers"
)

// Read returns the valid map that has these bytes.
func Read(s string) (api.Map, api.Errno) {
	r, ok := numbers.NewReader(s, mark)
	if !ok {
		return api.Map{}, api.ErrForm
	}
	m := api.Map{
		Version: r.Next(),
		Lanes:   numbers.Read(r, api.MaxLanes, readLane),
		Zones:   numbers.Read(r, api.MaxZones, readZone),
		Signals: numbers.Read(r, api.MaxSignals, readSignal),
		Works:   numbers.Read(r, api.MaxWorks, readWork),
	}
	// The reader only guesses a map: it has been right if s is what Bytes
	// makes of it.
	if again, e := Bytes(m); e != api.OK || again != s {
		return api.Map{}, api.ErrForm
	}
	return m, api.OK
}

// Go evaluates calls from left to right, so that the fields are read in the
// order in which they are written here.

func readLane(r *numbers.Reader) api.Lane {
	return api.Lane{
		Kind:  r.NextInt(),
		Half:  r.Next(),
		Limit: r.Next(),
		Curve: api.Curve{Pts: numbers.Read(r, api.MaxPts, readSpot)},
		Next:  numbers.Read(r, api.MaxNext, (*numbers.Reader).NextInt),
	}
}

func readSpot(r *numbers.Reader) api.Spot {
	return api.Spot{X: r.Next(), Y: r.Next()}
}

func readZone(r *numbers.Reader) api.Zone {
	return api.Zone{Signal: r.NextInt(), Parts: numbers.Read(r, api.MaxParts, readPart)}
}

func readPart(r *numbers.Reader) api.Part {
	return api.Part{Lane: r.NextInt(), From: r.Next(), To: r.Next(), Rank: r.NextInt()}
}

func readSignal(r *numbers.Reader) api.Signal {
	return api.Signal{Offset: r.Next(), Phases: numbers.Read(r, api.MaxPhases, readPhase)}
}

func readPhase(r *numbers.Reader) api.Phase {
	return api.Phase{Ticks: r.Next(), Green: numbers.Read(r, api.MaxLanes, (*numbers.Reader).NextInt)}
}

func readWork(r *numbers.Reader) api.Work {
	return api.Work{Lane: r.NextInt(), From: r.Next(), To: r.Next(), Begin: r.Next(), End: r.Next(), Limit: r.Next()}
}
