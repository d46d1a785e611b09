package drive

import (
	"slices"

	"kerbstone/api"
	"kerbstone/plan"
)

// What the actuators have at most.
const (
	maxQueue    = 5
	maxCircuits = 2
	maxGrip     = 90
)

// Actuate returns the actuators after a tick with a command, with so many
// circuits of the brake and a grip, and the acceleration.
func Actuate(c api.Car, x api.Actuator, command int64, circuits int, grip int64) (api.Actuator, int64) {
	if plan.CheckCar(c) != api.OK {
		return api.Actuator{}, 0
	}
	waiting := x.Queue[max(0, len(x.Queue)-maxQueue):]
	queue := append(slices.Clone(waiting), command)
	var wanted int64
	if len(queue) > c.Delay {
		wanted, queue = queue[0], queue[1:]
	}
	brake := c.Brake * int64(min(max(circuits, 0), maxCircuits))
	grip = min(max(grip, 0), maxGrip)
	act := max(plan.Ramp(c, x.Last, wanted), -brake, -grip)
	return api.Actuator{Queue: queue, Last: act}, act
}
