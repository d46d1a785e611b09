package drive

import (
	"cmp"
	"maps"
	"slices"

	"kerbstone/api"
	"kerbstone/plan"
	"kerbstone/track"
)

// computer is the state of a node.
type computer struct {
	api.NodeSetup
	now    int64
	mode   int
	looked int
	// plan is what the last tick did, know what was known in it.
	plan api.Plan
	know api.Know
	// last is the act of the last tick.
	last int64
	// heard is the greatest stamp of a scan that counted.
	heard  int64
	memory memory
	// told has the readings that count, by their stamps.
	told map[int64][]reading
}

// newComputer returns a computer in its beginning.
func newComputer(s api.NodeSetup) computer {
	c := computer{
		NodeSetup: copySetup(s),
		now:       s.Tick,
		mode:      api.ModeDrive,
		plan:      api.Plan{Acts: []int64{0}},
		heard:     s.Tick,
		told:      map[int64][]reading{},
	}
	c.begin(s.Ego)
	return c
}

// begin makes the current tick the first one, at which nothing is known but the
// bounds of the vehicle.
func (c *computer) begin(ego api.Ego) {
	c.know = c.own(track.All(c.Map, c.now, ego))
	c.memory.begin(c.know)
	clear(c.told)
}

// clone returns a computer that does the same. What is known at a tick, plans,
// scans and the setup are never changed in place, so that both may have them.
func (c *computer) clone() computer {
	to := *c
	to.told = map[int64][]reading{}
	for stamp, l := range c.told {
		to.told[stamp] = slices.Clone(l)
	}
	return to
}

// step returns what is known a tick later. There is no error: what is known is
// valid, and the vehicle does not come far beyond the end of its route.
func (c *computer) step(k api.Know, act int64) api.Know {
	next, _, _ := track.Step(c.Map, c.Route, c.Car.Len, k, act, c.Signals)
	return next
}

// until returns what is known at a later tick, and remembers it on the way.
func (c *computer) until(k api.Know, tick int64) api.Know {
	for k.Tick < tick {
		k = c.step(k, c.memory.at(k.Tick).act)
		c.memory.at(k.Tick).know = k
	}
	return k
}

// turn is a tick of a computer.
type turn struct {
	*computer
	input api.Input
	// from is the first tick of which something was measured that was not known
	// before.
	from    int64
	command int64
}

// phase is a part of a tick. It returns the next one, nil behind the last one.
type phase func() phase

// tick does a tick with what is measured, and returns the command.
func (c *computer) tick(input api.Input) int64 {
	t := &turn{computer: c, input: input, from: c.now}
	for next := phase(t.sort); next != nil; {
		next = next()
	}
	return t.command
}

// sort puts the readings that count to those of before, by their stamps.
func (t *turn) sort() phase {
	for _, r := range readings(t.input) {
		stamp := r.stamp()
		if !within(stamp, t.memory.first(), t.now) {
			continue
		}
		l := append(t.told[stamp], r)
		slices.SortStableFunc(l, func(a, b reading) int { return cmp.Compare(a.kind, b.kind) })
		t.told[stamp] = l
		t.from = min(t.from, stamp)
		if r.kind == ofView {
			t.heard = max(t.heard, stamp)
		}
	}
	return t.fuse
}

// fuse makes what is known of what is remembered and the readings. Before the
// first new one, what is remembered is as it was.
func (t *turn) fuse() phase {
	k := t.memory.at(t.from).know
	for _, stamp := range slices.Sorted(maps.Keys(t.told)) {
		if stamp < t.from {
			continue
		}
		k = t.until(k, stamp)
		for _, r := range t.told[stamp] {
			var ok bool
			if k, ok = t.with(k, r); !ok {
				return t.contradict
			}
		}
	}
	t.know = t.until(k, t.now)
	return t.listen
}

// contradict forgets all but what the vehicle itself did, and falls back.
func (t *turn) contradict() phase {
	first := t.memory.ticks()[0]
	t.begin(t.until(first.know, t.now).Ego)
	t.mode = api.ModeFallback
	return t.listen
}

// listen falls back if there was no scan for too long.
func (t *turn) listen() phase {
	if t.now-t.heard > int64(t.Silence) {
		t.mode = api.ModeFallback
	}
	return t.proceed
}

// proceed goes on with what is left of the plan of before.
func (t *turn) proceed() phase {
	t.plan = plan.Tail(t.plan)
	if t.mode == api.ModeDrive {
		return t.search
	}
	return t.act
}

// search takes a better plan, if it finds one.
func (t *turn) search() phase {
	var queue []int64
	for i := range t.Car.Delay {
		queue = append(queue, plan.Act(t.plan, i))
	}
	found, looked, ok := plan.Search(t.Map, t.Route, t.Car, t.know, queue, t.last, t.Budget, t.Signals)
	if ok {
		t.plan = found
	}
	t.looked = looked
	return t.act
}

// act does the first act of the plan, and forgets what is too old.
func (t *turn) act() phase {
	t.command, t.last = plan.Act(t.plan, t.Car.Delay), plan.Act(t.plan, 0)
	t.memory.next(t.last, t.step(t.know, t.last))
	delete(t.told, t.now-api.MaxLate)
	t.now++
	return nil
}
