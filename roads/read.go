package roads

import (
	"strings"

	"kerbstone/api"
)

// Read returns the valid map that has these bytes.
func Read(s string) (api.Map, api.Errno) {
	text, ok := strings.CutPrefix(s, mark)
	if !ok {
		return api.Map{}, api.ErrForm
	}
	r := &reader{text: text}
	m := api.Map{
		Version: r.next(),
		Lanes:   read(r, api.MaxLanes, readLane),
		Zones:   read(r, api.MaxZones, readZone),
		Signals: read(r, api.MaxSignals, readSignal),
		Works:   read(r, api.MaxWorks, readWork),
	}
	// The reader only guesses a map: it has been right if s is what Bytes
	// makes of it.
	if again, e := Bytes(m); e != api.OK || again != s {
		return api.Map{}, api.ErrForm
	}
	return m, api.OK
}

// reader reads numbers one after the other.
type reader struct {
	text string
}

// next reads a number, 0 if there is none left.
func (r *reader) next() int64 {
	if len(r.text) < size {
		return 0
	}
	var n int64
	for i := range size {
		n = n<<8 | int64(r.text[i])
	}
	r.text = r.text[size:]
	return n
}

// number reads a number that is an int.
func (r *reader) number() int {
	return int(r.next())
}

// read reads how many rows there are, and each of them: none, if there are
// more than most.
func read[R any](r *reader, most int64, one func(*reader) R) []R {
	count := r.next()
	if count > most {
		return nil
	}
	var rows []R
	for range count {
		rows = append(rows, one(r))
	}
	return rows
}

// Go evaluates calls from left to right, so that the fields are read in the
// order in which they are written here.

func readLane(r *reader) api.Lane {
	return api.Lane{
		Kind:  r.number(),
		Half:  r.next(),
		Limit: r.next(),
		Curve: api.Curve{Pts: read(r, api.MaxPts, readSpot)},
		Next:  read(r, api.MaxNext, (*reader).number),
	}
}

func readSpot(r *reader) api.Spot {
	return api.Spot{X: r.next(), Y: r.next()}
}

func readZone(r *reader) api.Zone {
	return api.Zone{Signal: r.number(), Parts: read(r, api.MaxParts, readPart)}
}

func readPart(r *reader) api.Part {
	return api.Part{Lane: r.number(), From: r.next(), To: r.next(), Rank: r.number()}
}

func readSignal(r *reader) api.Signal {
	return api.Signal{Offset: r.next(), Phases: read(r, api.MaxPhases, readPhase)}
}

func readPhase(r *reader) api.Phase {
	return api.Phase{Ticks: r.next(), Green: read(r, api.MaxLanes, (*reader).number)}
}

func readWork(r *reader) api.Work {
	return api.Work{Lane: r.number(), From: r.next(), To: r.next(), Begin: r.next(), End: r.next(), Limit: r.next()}
}
