package track

import (
	"slices"

	"kerbstone/api"
	"kerbstone/world"
)

// Covers reports whether a state is one of those that are known to be possible.
func Covers(m api.Map, s api.State, k api.Know) bool {
	if Check(m, k) != api.OK || world.Check(m, s) != api.OK || s.Tick != k.Tick {
		return false
	}
	ego := s.Agents[0]
	if !inside(ego.S, ego.S, k.Ego.SLo, k.Ego.SHi) || !inside(ego.V, ego.V, k.Ego.VLo, k.Ego.VHi) {
		return false
	}
	for i, a := range s.Agents {
		if i > 0 && world.There(s, i) && !covers(k.Blobs, world.Body(m, a), a.V) {
			return false
		}
	}
	return true
}

// covers reports whether each part of a body with this speed is in a blob.
func covers(l []api.Blob, body []api.Span, v int64) bool {
	for _, part := range body {
		holds := func(b api.Blob) bool {
			return b.Lane == part.Lane && inside(part.From, part.To, b.Lo, b.Hi) && inside(v, v, b.VLo, b.VHi)
		}
		if !slices.ContainsFunc(l, holds) {
			return false
		}
	}
	return true
}

// Inside reports whether a says at least as much as b.
func Inside(a, b api.Know) bool {
	if a.Tick != b.Tick {
		return false
	}
	if !inside(a.Ego.SLo, a.Ego.SHi, b.Ego.SLo, b.Ego.SHi) || !inside(a.Ego.VLo, a.Ego.VHi, b.Ego.VLo, b.Ego.VHi) {
		return false
	}
	for _, x := range a.Blobs {
		if !slices.ContainsFunc(b.Blobs, func(y api.Blob) bool { return lies(x, y) }) {
			return false
		}
	}
	return true
}

// lies reports whether the blob x lies in the blob y.
func lies(x, y api.Blob) bool {
	return x.Lane == y.Lane && inside(x.Lo, x.Hi, y.Lo, y.Hi) && inside(x.VLo, x.VHi, y.VLo, y.VHi) &&
		(y.Hold == 0 || x.Hold != 0 && x.Hold <= y.Hold)
}

// inside reports whether lo is not below least, and hi not above most.
func inside(lo, hi, least, most int64) bool {
	return lo >= least && hi <= most
}
