package drive_test

import (
	"reflect"
	"testing"

	"kerbstone/api"
	"kerbstone/drive"
	"kerbstone/plan"
	"kerbstone/track"
)

// R2: a node that is nil, or that no function returned, has zero values, and
// stays as it is.
func TestInvalidNodes(t *testing.T) {
	valid := node(t, setup())
	copied, assigned := *valid, new(drive.Node)
	*assigned = *node(t, setup())
	for i, n := range []*drive.Node{nil, {}, new(drive.Node), &copied, assigned} {
		for range 2 {
			if command, e := n.Tick(api.Input{}); command != 0 || e != api.ErrNil {
				t.Error(i, command, e)
			}
			if command, e := n.Tick(api.Input{Tick: 5, Scans: make([]api.Scan, 9)}); command != 0 || e != api.ErrNil {
				t.Error(i, command, e)
			}
			if n.Reset() != api.ErrNil || n.Copy() != nil {
				t.Error(i, "Reset, Copy")
			}
			if n.Now() != 0 || n.Mode() != 0 || n.Looked() != 0 || n.Bytes() != "" || n.Verdict() != (api.Finding{}) {
				t.Error(i, n.Now(), n.Mode(), n.Looked(), n.Bytes(), n.Verdict())
			}
			if !reflect.DeepEqual(n.Plan(), api.Plan{}) || !reflect.DeepEqual(n.Know(), api.Know{}) || !reflect.DeepEqual(n.Setup(), api.NodeSetup{}) {
				t.Error(i, n.Plan(), n.Know(), n.Setup())
			}
			if n.Same(n) || n.Same(valid) || valid.Same(n) || n.Same(nil) {
				t.Error(i, "Same")
			}
		}
	}
	if !valid.Same(node(t, setup())) {
		t.Error("a valid node has changed")
	}
	// Nor is a valid node, whose memory was overwritten with that of another one.
	*valid = *node(t, setup())
	if valid.Mode() != 0 || valid.Copy() != nil {
		t.Error("a node that was overwritten")
	}
}

// P1, R5: no arguments make a function panic, or never end; and what a node
// knows is valid, whatever it is told.
func TestAnyArguments(t *testing.T) {
	t.Parallel()
	d := &dice{102}
	near := func(n int64) int64 {
		return d.pick(n, n, n, n, n+1, n-1, 0, -1, far, low, api.MaxTick, api.MaxTick+1, d.roll(-9, 9))
	}
	made, ticks := 0, 0
	for i, x := range rides(t, 103, 700) {
		s := x.setup
		for range d.roll(0, 2) {
			d.spoil(&s, near)
		}
		n, e := drive.NewNode(s)
		if e != drive.CheckSetup(s) || (n == nil) != (e != api.OK) {
			t.Fatal(i, n, e)
		}
		if n == nil {
			n = x.n
		} else {
			made++
		}
		for range 6 {
			input := d.input(n, near)
			if command, e := n.Tick(input); e != api.OK && command != 0 {
				t.Fatal(i, command, e)
			} else if e == api.OK {
				ticks++
			}
			s := n.Setup()
			if e := track.Check(s.Map, n.Know()); e != api.OK || plan.Check(s.Car, n.Plan()) != api.OK {
				t.Fatal(i, e, n.Know(), n.Plan())
			}
			n.Reset()
		}
	}
	if made < 200 || ticks < 2000 {
		t.Error("too few nodes to show anything:", made, ticks)
	}
}

// spoil changes something of a setup.
func (d *dice) spoil(s *api.NodeSetup, near func(n int64) int64) {
	switch d.roll(0, 9) {
	case 0:
		s.Tick = near(s.Tick)
	case 1:
		s.Ego.SLo, s.Ego.SHi = near(s.Ego.SLo), near(s.Ego.SHi)
	case 2:
		s.Ego.VLo, s.Ego.VHi = near(s.Ego.VLo), near(s.Ego.VHi)
	case 3:
		s.Car.Len, s.Car.Accel = near(s.Car.Len), near(s.Car.Accel)
	case 4:
		s.Car.Brake, s.Car.Rate, s.Car.Delay = near(s.Car.Brake), near(s.Car.Rate), int(near(int64(s.Car.Delay)))
	case 5:
		s.Budget, s.Silence = int(near(int64(s.Budget))), int(near(int64(s.Silence)))
	case 6:
		s.Route = append([]int{int(near(int64(s.Route[0])))}, s.Route[1:]...)
	case 7:
		s.Route = append(s.Route[:len(s.Route):len(s.Route)], int(near(1)))
	case 8:
		s.Map = d.town()
	case 9:
		s.Map = api.Map{}
	}
}

// input returns measurements of any numbers.
func (d *dice) input(n *drive.Node, near func(n int64) int64) api.Input {
	x := d.lie(n)
	x.Tick = d.pick(n.Now(), n.Now(), n.Now(), n.Now(), near(n.Now()))
	for range d.pick(0, 0, 1, 9) {
		x.Speeds = append(x.Speeds, mark(near(n.Now()), near(0), near(2000)))
		x.Fixes = append(x.Fixes, mark(near(n.Now()), near(0), near(api.MaxTick)))
	}
	for range d.pick(0, 0, 1, 9) {
		s := seen(near(n.Now()), span(int(near(0)), near(0), near(90000)), span(0, low, far))
		s.Points = append(s.Points, point(near(0), near(0), near(0)), point(far, low, far))
		x.Scans = append(x.Scans, s)
	}
	if d.often(2) {
		x.Scans = append(x.Scans, api.Scan{Stamp: n.Now(), Points: make([]api.Point, 1500), Seen: make([]api.Span, 300)})
	}
	return x
}

// P1, R5: Actuate with any numbers.
func TestAnyActuators(t *testing.T) {
	d := &dice{104}
	near := func(n int64) int64 { return d.pick(n, n, n, 0, far, low, d.roll(-100, 100)) }
	for range 5000 {
		c := d.car()
		c.Len, c.Accel, c.Brake, c.Rate, c.Delay = near(c.Len), near(c.Accel), near(c.Brake), near(c.Rate), int(near(int64(c.Delay)))
		x := actuators(near(0), near(1), near(2))
		after, act := drive.Actuate(c, x, near(0), int(near(1)), near(90))
		if plan.CheckCar(c) != api.OK && (act != 0 || !sameActuators(after, api.Actuator{})) {
			t.Fatal(c, after, act)
		}
	}
}
