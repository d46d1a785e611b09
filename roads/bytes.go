package roads

import (
	"strings"

	"kerbstone/api"
)

// mark is how the bytes of a map begin, and size how many bytes a number has.
const (
	mark = "kbm1"
	size = 8
)

// Bytes returns the bytes of a map.
func Bytes(m api.Map) (string, api.Errno) {
	if e := Check(m); e != api.OK {
		return "", e
	}
	w := writer{}
	w.text.WriteString(mark)
	w.put(m.Version)
	write(&w, m.Lanes, writeLane)
	write(&w, m.Zones, writeZone)
	write(&w, m.Signals, writeSignal)
	write(&w, m.Works, writeWork)
	return w.text.String(), api.OK
}

// writer writes numbers one after the other.
type writer struct {
	text strings.Builder
}

// put writes numbers, the highest byte of each first.
func (w *writer) put(numbers ...int64) {
	for _, n := range numbers {
		for shift := 8 * (size - 1); shift >= 0; shift -= 8 {
			w.text.WriteByte(byte(n >> shift))
		}
	}
}

// write writes how many rows there are, and each of them.
func write[R any](w *writer, rows []R, one func(*writer, R)) {
	w.put(int64(len(rows)))
	for _, row := range rows {
		one(w, row)
	}
}

func writeNumber(w *writer, n int) {
	w.put(int64(n))
}

func writeLane(w *writer, l api.Lane) {
	w.put(int64(l.Kind), l.Half, l.Limit)
	write(w, l.Curve.Pts, writeSpot)
	write(w, l.Next, writeNumber)
}

func writeSpot(w *writer, p api.Spot) {
	w.put(p.X, p.Y)
}

func writeZone(w *writer, z api.Zone) {
	w.put(int64(z.Signal))
	write(w, z.Parts, writePart)
}

func writePart(w *writer, p api.Part) {
	w.put(int64(p.Lane), p.From, p.To, int64(p.Rank))
}

func writeSignal(w *writer, s api.Signal) {
	w.put(s.Offset)
	write(w, s.Phases, writePhase)
}

func writePhase(w *writer, p api.Phase) {
	w.put(p.Ticks)
	write(w, p.Green, writeNumber)
}

func writeWork(w *writer, k api.Work) {
	w.put(int64(k.Lane), k.From, k.To, k.Begin, k.End, k.Limit)
}
