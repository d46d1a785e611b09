package roads

import (
	"kerbstone/api"
	"kerbstone/numbers"
)

// mark is how the bytes of a map begin.
const mark = "kbm1"

// Bytes returns the bytes of a map.
func Bytes(m api.Map) (string, api.Errno) {
	if e := Check(m); e != api.OK {
		return "", e
	}
	w := numbers.NewWriter(mark)
	w.Put(m.Version)
	numbers.Write(w, m.Lanes, writeLane)
	numbers.Write(w, m.Zones, writeZone)
	numbers.Write(w, m.Signals, writeSignal)
	numbers.Write(w, m.Works, writeWork)
	return w.Text(), api.OK
}

func writeLane(w *numbers.Writer, l api.Lane) {
	w.Put(int64(l.Kind), l.Half, l.Limit)
	numbers.Write(w, l.Curve.Pts, writeSpot)
	numbers.Write(w, l.Next, (*numbers.Writer).PutInt)
}

func writeSpot(w *numbers.Writer, p api.Spot) {
	w.Put(p.X, p.Y)
}

func writeZone(w *numbers.Writer, z api.Zone) {
	w.PutInt(z.Signal)
	numbers.Write(w, z.Parts, writePart)
}

func writePart(w *numbers.Writer, p api.Part) {
	w.Put(int64(p.Lane), p.From, p.To, int64(p.Rank))
}

func writeSignal(w *numbers.Writer, s api.Signal) {
	w.Put(s.Offset)
	numbers.Write(w, s.Phases, writePhase)
}

func writePhase(w *numbers.Writer, p api.Phase) {
	w.Put(p.Ticks)
	numbers.Write(w, p.Green, (*numbers.Writer).PutInt)
}

func writeWork(w *numbers.Writer, k api.Work) {
	w.Put(int64(k.Lane), k.From, k.To, k.Begin, k.End, k.Limit)
}
