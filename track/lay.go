package track

// laid is the part of a moved blob on one lane. It may be known that it is
// behind the vehicle on its route.
type laid struct {
	blob
	behind bool
}

// lay lays out a moved blob, which may reach beyond the end of its lane, on
// this lane and those that come after it.
func (s *step) lay(b blob, behind bool) []laid {
	var all []laid
	var lay func(b blob, behind bool)
	lay = func(b blob, behind bool) {
		length := s.lanes[b.Lane].length
		lo, hi := max(b.Lo, 0), min(b.Hi, length)
		if behind {
			start, _ := s.start(b.Lane)
			hi = min(hi, s.barrier-start)
		}
		if lo <= hi {
			all = append(all, laid{blob: b.over(lo, hi), behind: behind})
		}
		if b.Hi < length {
			return
		}
		for _, next := range s.m.Lanes[b.Lane].Next {
			on := b.over(b.Lo-length, b.Hi-length)
			on.Lane, on.Hold = next, 0
			lay(on, s.staysBehind(b.Lane, next, behind))
		}
	}
	lay(b, behind)
	return all
}

// staysBehind reports whether those who go on from a lane to a Next are behind
// the vehicle on its route there.
func (s *step) staysBehind(lane, next int, behind bool) bool {
	start, on := s.start(next)
	if s.follows(lane, next) {
		return behind
	}
	return on && s.after.SLo >= start
}
