package cloud

import (
	"cmp"
	"container/heap"
	"slices"

	"kerbstone/api"
	"kerbstone/curve"
)

// Nearest returns the first k points in the order of their distances from p,
// of equal ones by their numbers.
func Nearest(l []api.Point, p api.Spot, k int) []int {
	if Check(l) != api.OK || !validSpots(p) || k < 1 {
		return nil
	}
	var kept neighbours
	for i, q := range l {
		heap.Push(&kept, neighbour{number: i, square: curve.Dist2(p, spot(q))})
		if len(kept) > k {
			heap.Pop(&kept)
		}
	}
	numbers := make([]int, len(kept))
	for i := range slices.Backward(numbers) {
		numbers[i] = heap.Pop(&kept).(neighbour).number
	}
	return numbers
}

// neighbour is a point, with the square of its distance.
type neighbour struct {
	number int
	square int64
}

// neighbours is a heap of the nearest points: the last one of them is on top,
// since it goes first if a nearer one comes.
type neighbours []neighbour

// Len returns how many points are kept.
func (l neighbours) Len() int { return len(l) }

// Less reports whether the point i comes out before the point j.
func (l neighbours) Less(i, j int) bool {
	return cmp.Or(cmp.Compare(l[i].square, l[j].square), cmp.Compare(l[i].number, l[j].number)) > 0
}

// Swap exchanges two points.
func (l neighbours) Swap(i, j int) { l[i], l[j] = l[j], l[i] }

// Push adds a point at the end.
func (l *neighbours) Push(x any) { *l = append(*l, x.(neighbour)) }

// Pop takes the point at the end away.
func (l *neighbours) Pop() any {
	end := len(*l) - 1
	last := (*l)[end]
	*l = (*l)[:end]
	return last
}
