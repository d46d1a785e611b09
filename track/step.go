package track

import (
	"cmp"
	"slices"

	"kerbstone/api"
	"kerbstone/roads"
	"kerbstone/world"
)

// step is a step of what is known, in which the bounds of the vehicle change
// from before to after.
type step struct {
	*way
	before, after api.Ego
	// barrier is the last coordinate, after the step, that is behind the
	// vehicle wherever it may be.
	barrier int64
	sources []int
	// red has the red lines before which all others stop if they can.
	red [api.MaxLanes][]int64
}

// Step returns what is known after a tick in which the vehicle has an
// acceleration, and what somebody may have passed in it.
func Step(m api.Map, route []int, length int64, k api.Know, act int64, signals bool) (api.Know, []api.Sweep, api.Errno) {
	w, e := follow(m, route, length, k)
	if e != api.OK {
		return api.Know{}, nil, e
	}
	ego := w.drive(k.Ego, act)
	if k.Tick == api.MaxTick || ego.SHi > api.MaxTick {
		return api.Know{}, nil, api.ErrRange
	}
	s := &step{way: w, before: k.Ego, after: ego, barrier: ego.SHi - length - 1, sources: roads.Sources(m)}
	if signals {
		s.red = w.redLines(k.Tick)
	}
	on, sweeps := s.move(w.outside(blobs(k.Blobs), k.Ego))
	on = joined(slices.Concat(on, s.entering()), 1)
	return api.Know{Tick: k.Tick + 1, Blobs: plain(w.outside(on, ego)), Ego: ego}, sweeps, api.OK
}

// redLines returns the red lines of all lanes at a tick.
func (g *ground) redLines(tick int64) [api.MaxLanes][]int64 {
	var red [api.MaxLanes][]int64
	for _, z := range g.m.Zones {
		for _, p := range z.Parts {
			if z.Signal > 0 {
				red[p.Lane] = roads.Red(g.m, p.Lane, tick)
			}
		}
	}
	return red
}

// move returns where those of the blobs may be after the step, and what they
// may have passed.
func (s *step) move(l []blob) ([]blob, []api.Sweep) {
	var on []blob
	var sweeps []api.Sweep
	for _, b := range l {
		to, behind := s.moved(b), s.isBehind(b)
		if to.Lo > to.Hi {
			// Whoever is there would pass the line before which they all stop: so
			// there is nobody.
			continue
		}
		for _, x := range s.lay(to, behind) {
			on = append(on, x.blob)
		}
		for _, x := range s.lay(to.over(b.Lo, to.Hi), behind) {
			sweeps = append(sweeps, api.Sweep{Lane: x.Lane, From: x.Lo, To: x.Hi, Behind: x.behind})
		}
	}
	slices.SortFunc(sweeps, bySweep)
	return on, slices.Compact(sweeps)
}

// bySweep compares sweeps; of two with one span, that which is not behind the
// vehicle comes first.
func bySweep(a, b api.Sweep) int {
	number := func(behind bool) int {
		if behind {
			return 1
		}
		return 0
	}
	return cmp.Or(
		cmp.Compare(a.Lane, b.Lane), cmp.Compare(a.From, b.From), cmp.Compare(a.To, b.To),
		cmp.Compare(number(a.Behind), number(b.Behind)),
	)
}

// moved returns a blob after the step, as if its lane went on for ever.
func (s *step) moved(b blob) blob {
	l := s.lanes[b.Lane]
	to := b
	to.VLo, to.VHi = max(b.VLo-l.brake, 0), min(b.VHi+l.accel, l.speed)
	to.Lo, to.Hi = b.Lo+to.VLo, b.Hi+to.VHi
	if b.Lo == 0 && slices.Contains(s.sources, b.Lane) {
		// Somebody may still be coming in.
		to.Lo = 0
	}
	to.Hold = s.line(b)
	if to.Hold > 0 {
		to.Hi = min(to.Hi, to.Hold-1)
	}
	return to
}

// line returns the first red line before which all of a blob can stop; 0, if
// there is none.
func (s *step) line(b blob) int64 {
	reach := b.Hi + world.Stop(b.VHi, s.lanes[b.Lane].brake)
	for _, line := range s.red[b.Lane] {
		if line > b.Hi && (line > reach || b.Hold != 0 && b.Hold <= line) {
			return line
		}
	}
	return 0
}

// isBehind reports whether all of a blob are behind the vehicle on its route,
// so that they stay there.
func (s *step) isBehind(b blob) bool {
	start, on := s.start(b.Lane)
	rear, _, ok := s.gap(s.before)
	return on && ok && start+b.Hi < rear
}

// entering returns the blobs of those who may come in after the step.
func (s *step) entering() []blob {
	var l []blob
	for _, lane := range s.sources {
		if lane == s.route[0] && s.barrier < 0 {
			continue
		}
		l = append(l, blob{Lane: lane, VHi: s.lanes[lane].speed})
	}
	return l
}
