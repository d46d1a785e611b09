package drive_test

import (
	"kerbstone/api"
	"kerbstone/drive"
	"kerbstone/plan"
	"kerbstone/track"
)

// The terms of the chapter, computed as plainly as they are written there.

// computer is a node that keeps all that it was ever told, and fuses all of it
// anew in each tick.
type computer struct {
	s          api.NodeSetup
	now, first int64
	mode       int
	looked     int
	plan, done api.Plan
	know       api.Know
	heard      int64
	last       int64
	acts       map[int64]int64
	past       map[int64]api.Know
	told       api.Input
	// clashes is how often the world has contradicted.
	clashes int
}

// made returns a computer in its beginning.
func made(s api.NodeSetup) *computer {
	c := &computer{s: s, now: s.Tick, first: s.Tick, heard: s.Tick, mode: api.ModeDrive}
	c.plan, c.done = acts(0), acts(0)
	c.acts, c.past = map[int64]int64{}, map[int64]api.Know{}
	c.know = c.own(track.All(s.Map, s.Tick, s.Ego))
	c.past[s.Tick] = c.know
	return c
}

func (c *computer) own(k api.Know) api.Know {
	return track.Own(c.s.Map, c.s.Route, c.s.Car.Len, k)
}

func (c *computer) step(k api.Know) api.Know {
	to, _, e := track.Step(c.s.Map, c.s.Route, c.s.Car.Len, k, c.acts[k.Tick], c.s.Signals)
	if e != api.OK {
		panic(e)
	}
	return to
}

// counts reports whether a measurement counts.
func (c *computer) counts(stamp int64) bool {
	return stamp >= c.now-4 && stamp <= c.now && stamp >= c.first
}

// hear appends those measurements that count to all of before.
func (c *computer) hear(input api.Input) {
	for _, x := range input.Scans {
		if c.counts(x.Stamp) {
			c.told.Scans = append(c.told.Scans, x)
			c.heard = max(c.heard, x.Stamp)
		}
	}
	for _, x := range input.Speeds {
		if c.counts(x.Stamp) {
			c.told.Speeds = append(c.told.Speeds, x)
		}
	}
	for _, x := range input.Fixes {
		if c.counts(x.Stamp) {
			c.told.Fixes = append(c.told.Fixes, x)
		}
	}
}

// measured returns what is known with all measurements of a tick.
func (c *computer) measured(k api.Know) (api.Know, bool) {
	good := true
	for _, x := range c.told.Speeds {
		to, ok := track.Speed(k, x)
		k, good = to, good && ok
	}
	for _, x := range c.told.Fixes {
		to, ok := track.Fix(k, x)
		k, good = to, good && ok
	}
	k = c.own(k)
	for _, x := range c.told.Scans {
		if x.Stamp == k.Tick {
			k = c.own(track.Update(c.s.Map, k, x))
			good = good && track.Explained(c.s.Map, k, x.Points)
		}
	}
	return k, good
}

// fuse makes what is known.
func (c *computer) fuse() {
	from := max(c.first, c.now-4)
	k, good := c.measured(c.past[from])
	for k.Tick < c.now && good {
		k = c.step(k)
		c.past[k.Tick] = k
		k, good = c.measured(k)
	}
	if c.know = k; good {
		return
	}
	c.clashes++
	for k = c.past[from]; k.Tick < c.now; {
		k = c.step(k)
	}
	c.know = c.own(track.All(c.s.Map, c.now, k.Ego))
	c.past[c.now], c.first, c.mode, c.told = c.know, c.now, api.ModeFallback, api.Input{}
}

// tick does a tick.
func (c *computer) tick(input api.Input) int64 {
	c.hear(input)
	c.fuse()
	if c.now-c.heard > int64(c.s.Silence) {
		c.mode = api.ModeFallback
	}
	if c.mode == api.ModeDrive {
		queue := []int64{}
		for i := 0; i < c.s.Car.Delay; i++ {
			queue = append(queue, plan.Act(c.plan, i))
		}
		p, looked, ok := plan.Search(c.s.Map, c.s.Route, c.s.Car, c.know, queue, c.last, c.s.Budget, c.s.Signals)
		if c.looked = looked; ok {
			c.plan = p
		}
	}
	command := plan.Act(c.plan, c.s.Car.Delay)
	c.last = plan.Act(c.plan, 0)
	c.acts[c.now] = c.last
	c.done, c.plan = c.plan, plan.Tail(c.plan)
	c.now++
	return command
}

// verdict returns whether the plan of the last tick is verified.
func (c *computer) verdict() api.Finding {
	return plan.Verify(c.s.Map, c.s.Route, c.s.Car, c.know, c.done, c.s.Signals)
}

// reset does a reset.
func (c *computer) reset() api.Errno {
	if c.mode != api.ModeFallback || c.know.Ego.VHi > 0 || !c.verdict().OK {
		return api.ErrState
	}
	c.mode, c.heard = api.ModeDrive, c.now
	return api.OK
}

// same reports whether a node shows the state of the computer.
func (c *computer) same(n *drive.Node) bool {
	return n.Now() == c.now && n.Mode() == c.mode && n.Looked() == c.looked && plan.Same(n.Plan(), c.done) &&
		track.Same(n.Know(), c.know) && n.Bytes() == c.bytes()
}

// bytes returns the bytes of the computer.
func (c *computer) bytes() string {
	l := []int64{c.now, int64(c.mode), int64(c.looked), int64(len(c.done.Acts))}
	l = append(l, c.done.Acts...)
	l = append(l, c.know.Tick, c.know.Ego.SLo, c.know.Ego.SHi, c.know.Ego.VLo, c.know.Ego.VHi, int64(len(c.know.Blobs)))
	for _, b := range c.know.Blobs {
		l = append(l, int64(b.Lane), b.Lo, b.Hi, b.VLo, b.VHi, b.Hold)
	}
	return "kbn1" + eights(l...)
}

// eights returns numbers as bytes, eight for each of them.
func eights(l ...int64) string {
	var text []byte
	for _, n := range l {
		x := uint64(n)
		text = append(text, byte(x>>56), byte(x>>48), byte(x>>40), byte(x>>32), byte(x>>24), byte(x>>16), byte(x>>8), byte(x))
	}
	return string(text)
}

// actuated returns what Actuate has to return for a valid car.
func actuated(c api.Car, x api.Actuator, command int64, circuits int, grip int64) (api.Actuator, int64) {
	queue := x.Queue
	for len(queue) > 5 {
		queue = queue[1:]
	}
	queue = append(append([]int64{}, queue...), command)
	wanted := int64(0)
	if len(queue) > c.Delay {
		wanted, queue = queue[0], queue[1:]
	}
	act := plan.Ramp(c, x.Last, wanted)
	brake := map[bool]int64{true: c.Brake, false: 0}
	if least := -brake[circuits > 0] - brake[circuits > 1]; act < least {
		act = least
	}
	for act < 0 && -act > grip {
		act++
	}
	return api.Actuator{Queue: queue, Last: act}, act
}
