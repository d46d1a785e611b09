package track

import "kerbstone/api"

// Speed returns what is known with a measured speed of the vehicle; false, if
// it may not have this speed.
func Speed(k api.Know, x api.Mark) (api.Know, bool) {
	return measured(k, x, func(e *api.Ego) (lo, hi *int64) { return &e.VLo, &e.VHi })
}

// Fix returns what is known with a measured place of the vehicle; false, if it
// may not be there.
func Fix(k api.Know, x api.Mark) (api.Know, bool) {
	return measured(k, x, func(e *api.Ego) (lo, hi *int64) { return &e.SLo, &e.SHi })
}

// measured returns what is known with a mark of two bounds of the vehicle.
func measured(k api.Know, x api.Mark, bounds func(*api.Ego) (lo, hi *int64)) (api.Know, bool) {
	k = Copy(k)
	if x.Stamp != k.Tick {
		return k, true
	}
	lo, hi := bounds(&k.Ego)
	least, most := max(*lo, x.Lo), min(*hi, x.Hi)
	if least > most {
		return k, false
	}
	*lo, *hi = least, most
	return k, true
}
