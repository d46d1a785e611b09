package roads

import "kerbstone/api"

// network is a valid map, with what its lanes say about each other.
type network struct {
	m       api.Map
	lengths [api.MaxLanes]int64
	// next has the Next of each lane, before its predecessors, and beyond all
	// lanes to which it leads.
	next, before, beyond [api.MaxLanes]set
}

// survey returns the network of a map, or why the map is not valid.
func survey(m api.Map) (*network, api.Errno) {
	n := &network{m: m}
	if e := n.check(); e != api.OK {
		return nil, e
	}
	n.link()
	return n, api.OK
}

// surveyOf returns the network of a map, if the map is valid and has the lane.
func surveyOf(m api.Map, lane int) (*network, bool) {
	n, e := survey(m)
	if e != api.OK || !n.isLane(lane) {
		return nil, false
	}
	return n, true
}

// isLane reports whether there is a lane with this number.
func (n *network) isLane(lane int) bool {
	return lane >= 0 && lane < len(n.m.Lanes)
}

// link finds out what leads to what.
func (n *network) link() {
	// A Next has the greater number, so that all to which it leads is known
	// when a lane is reached from the end.
	for i := len(n.m.Lanes) - 1; i >= 0; i-- {
		n.next[i] = setOf(n.m.Lanes[i].Next)
		n.beyond[i] = n.next[i]
		for _, next := range n.m.Lanes[i].Next {
			n.before[next] |= 1 << i
			n.beyond[i] |= n.beyond[next]
		}
	}
}

// entries returns the entries of a zone.
func (n *network) entries(z api.Zone) set {
	var all, led set
	for _, p := range z.Parts {
		all |= 1 << p.Lane
		led |= n.beyond[p.Lane]
	}
	return all &^ led
}

// ends returns the lanes on which a part of the zone goes up to their length.
func (n *network) ends(z api.Zone) set {
	var ends set
	for _, p := range z.Parts {
		if p.To == n.lengths[p.Lane] {
			ends |= 1 << p.Lane
		}
	}
	return ends
}
