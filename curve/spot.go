package curve

import "kerbstone/api"

// Side returns 1 if c is to the left of the way from a to b, -1 if it is to
// the right, and 0 if it is on the line.
func Side(a, b, c api.Spot) int {
	if !valid(a, b, c) {
		return 0
	}
	area := cross(minus(b, a), minus(c, a))
	switch {
	case area > 0:
		return 1
	case area < 0:
		return -1
	}
	return 0
}

// Dist2 returns the square of the distance of a and b.
func Dist2(a, b api.Spot) int64 {
	if !valid(a, b) {
		return 0
	}
	d := minus(b, a)
	return dot(d, d)
}

// Blocks reports whether the closed segments from a to b and from c to d have
// a common point.
func Blocks(a, b, c, d api.Spot) bool {
	if !valid(a, b, c, d) {
		return false
	}
	// The sides alone do not tell segments on one line, or single points, apart.
	if !overlap(a.X, b.X, c.X, d.X) || !overlap(a.Y, b.Y, c.Y, d.Y) {
		return false
	}
	return Side(a, b, c)*Side(a, b, d) <= 0 && Side(c, d, a)*Side(c, d, b) <= 0
}

// Sees reports whether p is within the distance view of the eye.
func Sees(eye, p api.Spot, view int64) bool {
	if !valid(eye, p) || view < 0 || view > 2*api.MaxSpot {
		return false
	}
	return Dist2(eye, p) <= view*view
}

// valid reports whether all spots are valid.
func valid(spots ...api.Spot) bool {
	for _, p := range spots {
		if p.X < -api.MaxSpot || p.X > api.MaxSpot || p.Y < -api.MaxSpot || p.Y > api.MaxSpot {
			return false
		}
	}
	return true
}

// overlap reports whether the interval between a and b has a number in common
// with that between c and d.
func overlap(a, b, c, d int64) bool {
	return max(a, b) >= min(c, d) && max(c, d) >= min(a, b)
}

func minus(p, q api.Spot) api.Spot {
	return api.Spot{X: p.X - q.X, Y: p.Y - q.Y}
}

func dot(v, w api.Spot) int64 {
	return v.X*w.X + v.Y*w.Y
}

func cross(v, w api.Spot) int64 {
	return v.X*w.Y - v.Y*w.X
}

// norm returns the length of v, rounded down.
func norm(v api.Spot) int64 {
	square := dot(v, v)
	if square == 0 {
		return 0
	}
	// Newton's steps fall to the root from above; the sum of both sides is not
	// below it, and is the root itself along the axes.
	root := max(v.X, -v.X) + max(v.Y, -v.Y)
	for next := (root + square/root) / 2; next < root; next = (root + square/root) / 2 {
		root = next
	}
	return root
}

// floor returns a / b, rounded down, for a b above 0.
func floor(a, b int64) int64 {
	q := a / b
	if a%b < 0 {
		q--
	}
	return q
}
