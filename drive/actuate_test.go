package drive_test

import (
	"slices"
	"testing"

	"kerbstone/api"
	"kerbstone/drive"
)

// actuators makes actuators.
func actuators(last int64, queue ...int64) api.Actuator {
	return api.Actuator{Queue: queue, Last: last}
}

// sameActuators reports whether two actuators are equal.
func sameActuators(a, b api.Actuator) bool {
	return a.Last == b.Last && slices.Equal(a.Queue, b.Queue)
}

// P8.1
func TestActuate(t *testing.T) {
	for i, x := range []struct {
		delay    int
		x        api.Actuator
		command  int64
		circuits int
		grip     int64
		want     int64
		queue    []int64
	}{
		// The examples of the chapter.
		{0, actuators(0), -60, 1, 90, -30, nil},
		{0, actuators(0), -60, 0, 90, 0, nil},
		{1, actuators(0, 20), 0, 2, 90, 20, []int64{0}},
		// The command waits until the queue is longer than the delay.
		{0, actuators(0), 20, 2, 90, 20, nil},
		{1, actuators(0), 20, 2, 90, 0, []int64{20}},
		{3, actuators(0, 5, 6), 20, 2, 90, 0, []int64{5, 6, 20}},
		{3, actuators(0, 5, 6, 7), 20, 2, 90, 5, []int64{6, 7, 20}},
		{5, actuators(0, 5, 6, 7, 8), 20, 2, 90, 0, []int64{5, 6, 7, 8, 20}},
		{5, actuators(0, 5, 6, 7, 8, 9), 20, 2, 90, 5, []int64{6, 7, 8, 9, 20}},
		// While nothing is taken off, the acceleration goes towards 0.
		{2, actuators(20, 7), -60, 2, 90, 0, []int64{7, -60}},
		{2, actuators(-60, 7), -60, 2, 90, -30, []int64{7, -60}},
		// One is taken off at most.
		{0, actuators(0, 5, 6, 7), 20, 2, 90, 5, []int64{6, 7, 20}},
		{2, actuators(0, 5, 6, 7, 8), 20, 2, 90, 5, []int64{6, 7, 8, 20}},
		// The last five count.
		{5, actuators(0, 1, 5, 6, 7, 8, 9), 20, 2, 90, 5, []int64{6, 7, 8, 9, 20}},
		{0, actuators(0, 1, 2, 3, 5, 6, 7, 8, 9), 20, 2, 90, 5, []int64{6, 7, 8, 9, 20}},
		// It is ramped from what was last, whatever that is.
		{0, actuators(-60), 20, 2, 90, -30, nil},
		{0, actuators(20), -60, 2, 90, -10, nil},
		{0, actuators(far), low, 2, 90, -10, nil},
		{0, actuators(low), far, 2, 90, -30, nil},
		{0, actuators(0), 25, 2, 90, 20, nil},
		// The circuits and the grip bound the braking alone.
		{0, actuators(-60), -60, 1, 90, -60, nil},
		{0, actuators(-60), -60, 2, 90, -60, nil},
		{0, actuators(-60), -60, 3, 90, -60, nil},
		{0, actuators(-60), -60, far, 90, -60, nil},
		{0, actuators(-60), -60, -1, 90, 0, nil},
		{0, actuators(-60), -60, low, 90, 0, nil},
		{0, actuators(0), 20, 0, 0, 20, nil},
		{0, actuators(-60), -60, 1, 60, -60, nil},
		{0, actuators(-60), -60, 1, 59, -59, nil},
		{0, actuators(-60), -60, 2, 1, -1, nil},
		{0, actuators(-60), -60, 2, 0, 0, nil},
		{0, actuators(-60), -60, 2, -1, 0, nil},
		{0, actuators(-60), -60, 2, low, 0, nil},
		{0, actuators(-60), -60, 2, far, -60, nil},
		{0, actuators(-60), -60, 0, 30, 0, nil},
	} {
		c := car()
		c.Delay = x.delay
		after, act := drive.Actuate(c, x.x, x.command, x.circuits, x.grip)
		if act != x.want || !sameActuators(after, actuators(x.want, x.queue...)) {
			t.Error(i, after, act)
		}
	}
	for i, change := range []func(*api.Car){func(c *api.Car) { c.Brake = 91 }, func(c *api.Car) { c.Delay = 6 }, func(c *api.Car) { c.Delay = -1 }, func(c *api.Car) { c.Len = 0 }, func(c *api.Car) { *c = api.Car{} }} {
		c := car()
		change(&c)
		if after, act := drive.Actuate(c, actuators(20, 5, 6), 20, 2, 90); act != 0 || !sameActuators(after, api.Actuator{}) {
			t.Error(i, after, act)
		}
	}
}

// P8.1: it is so for all cars and actuators.
func TestActuateOfAnyCar(t *testing.T) {
	d := &dice{81}
	for i := range 20000 {
		c := d.car()
		x := api.Actuator{Last: d.pick(0, far, low, d.roll(-100, 40))}
		for range d.roll(0, 8) {
			x.Queue = append(x.Queue, d.pick(far, low, d.roll(-100, 40)))
		}
		command, circuits, grip := d.pick(far, low, d.roll(-100, 40)), int(d.pick(far, low, d.roll(-2, 4))), d.pick(far, low, d.roll(-5, 95))
		after, act := drive.Actuate(c, x, command, circuits, grip)
		if want, wanted := actuated(c, x, command, circuits, grip); act != wanted || !sameActuators(after, want) {
			t.Fatal(i, after, act, want, wanted)
		}
		if again, other := drive.Actuate(c, x, command, 2, 90); circuits > 0 && grip >= c.Brake && (other != act || !sameActuators(after, again)) {
			t.Fatal(i, after, again)
		}
	}
}
