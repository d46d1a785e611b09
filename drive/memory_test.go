package drive_test

import (
	"reflect"
	"testing"

	"kerbstone/api"
	"kerbstone/drive"
)

// spoil changes every number in the memory of a value, also behind the ends of
// lists.
func spoil(x reflect.Value) {
	switch x.Kind() {
	case reflect.Struct:
		for i := range x.NumField() {
			spoil(x.Field(i))
		}
	case reflect.Slice:
		x = x.Slice(0, x.Cap())
		for i := range x.Len() {
			spoil(x.Index(i))
		}
	case reflect.Int, reflect.Int64:
		x.SetInt(x.Int() + 12345)
	case reflect.Bool:
		x.SetBool(!x.Bool())
	}
}

// spacious returns an equal list that has room behind its end.
func spacious[V any](l []V) []V {
	return append(make([]V, 0, len(l)+5), l...)
}

// arguments are arguments for all functions.
type arguments struct {
	Setup  api.NodeSetup
	First  api.Input
	Second api.Input
	X      api.Actuator
}

// example returns arguments whose lists have room.
func example() arguments {
	x := arguments{Setup: setup(), X: api.Actuator{Queue: spacious([]int64{5, 6}), Last: 3}}
	x.Setup.Map, x.Setup.Route = lights(), spacious([]int{0})
	x.Setup.Map.Works = spacious([]api.Work{work(0, 100, 200, 0, 50, 40)})
	x.Setup.Map.Lanes = spacious(x.Setup.Map.Lanes)
	x.Setup.Map.Zones[0].Parts = spacious(x.Setup.Map.Zones[0].Parts)
	scan := func(stamp int64) api.Scan {
		return api.Scan{Stamp: stamp, Seen: spacious([]api.Span{span(0, 0, 60000), span(1, 0, 60000)}), Points: spacious([]api.Point{point(50000, 2000, 300), point(30000+300*stamp, 0, 300)})}
	}
	x.First = api.Input{Scans: spacious([]api.Scan{scan(0)}), Speeds: spacious([]api.Mark{mark(0, 0, 3)}), Fixes: spacious([]api.Mark{mark(0, 9900, 10100)})}
	x.Second = api.Input{Tick: 1, Scans: spacious([]api.Scan{scan(1), scan(0)}), Speeds: spacious([]api.Mark{mark(1, 0, 30)}), Fixes: spacious([]api.Mark{mark(0, 9900, 10100)})}
	return x
}

// nodes returns two nodes that were told the first input, or both.
func nodes(x arguments) (*drive.Node, *drive.Node) {
	a, _ := drive.NewNode(x.Setup)
	a.Tick(x.First)
	b := a.Copy()
	b.Tick(x.Second)
	return a, b
}

// show returns all that a node shows.
func show(n *drive.Node) []any {
	return []any{n.Now(), n.Mode(), n.Plan(), n.Know(), n.Verdict(), n.Looked(), n.Setup(), n.Bytes(), n.Plan(), n.Know(), n.Setup()}
}

// later returns what a node shows after some ticks, in which all that it was
// told is fused again.
func later(n *drive.Node) []any {
	n = n.Copy()
	for range 3 {
		n.Tick(api.Input{Tick: n.Now(), Fixes: []api.Mark{mark(0, 9950, 10050)}})
	}
	return show(n)
}

// R4: arguments are neither changed nor kept, and results share no memory with
// them, with nodes, or with each other.
func TestMemory(t *testing.T) {
	x := example()
	a, b := nodes(x)
	if !reflect.DeepEqual(x, example()) {
		t.Error("an argument is changed")
	}
	want, wanted, end, ended := show(a), show(b), later(a), later(b)
	if a.Mode() != api.ModeDrive || b.Now() != 2 || len(b.Know().Blobs) < 3 || len(b.Plan().Acts) < 3 || end[1] != api.ModeDrive {
		t.Fatal(want, wanted)
	}
	// Nothing is kept of the arguments.
	spoil(reflect.ValueOf(&x).Elem())
	if !reflect.DeepEqual(show(a), want) || !reflect.DeepEqual(show(b), wanted) || !reflect.DeepEqual(later(a), end) || !reflect.DeepEqual(later(b), ended) {
		t.Error("a node changes with an argument")
	}
	// Results are memory of their own.
	for i := range want {
		l := show(b)
		v := reflect.New(reflect.TypeOf(l[i])).Elem()
		v.Set(reflect.ValueOf(l[i]))
		spoil(v)
		for k := i + 1; k < len(l); k++ {
			if !reflect.DeepEqual(l[k], wanted[k]) {
				t.Error(i, k, "results share memory")
			}
		}
		if !reflect.DeepEqual(show(a), want) || !reflect.DeepEqual(show(b), wanted) || !reflect.DeepEqual(later(b), ended) {
			t.Fatal(i, "a node changes with a result")
		}
	}
}

// R4: what Tick is told is copied, whenever it is used.
func TestToldThings(t *testing.T) {
	for i := range 5 {
		x, n := example(), node(t, example().Setup)
		twin := node(t, example().Setup)
		n.Tick(x.First)
		twin.Tick(example().First)
		idle(t, n, i)
		idle(t, twin, i)
		spoil(reflect.ValueOf(&x).Elem())
		late := api.Input{Tick: n.Now(), Fixes: []api.Mark{mark(0, 9980, 10020)}}
		if do(t, n, late) != do(t, twin, late) || !n.Same(twin) || n.Mode() != api.ModeDrive {
			t.Error(i, n.Know(), twin.Know())
		}
	}
}

// R4: the actuators.
func TestMemoryOfActuators(t *testing.T) {
	for _, delay := range []int{0, 1, 5} {
		x := example()
		c := car()
		c.Delay = delay
		after, act := drive.Actuate(c, x.X, 9, 2, 90)
		again, _ := drive.Actuate(c, x.X, 9, 2, 90)
		if !reflect.DeepEqual(x, example()) || x.X.Queue[:3][2] != 0 {
			t.Error("an argument is changed")
		}
		spoil(reflect.ValueOf(&x).Elem())
		want, wanted := drive.Actuate(c, example().X, 9, 2, 90)
		if !sameActuators(after, want) || act != wanted {
			t.Error("a result changes with an argument")
		}
		spoil(reflect.ValueOf(&after).Elem())
		if !sameActuators(again, want) {
			t.Error("results share memory")
		}
	}
}

// R4: an empty list is as good as none.
func TestEmptyLists(t *testing.T) {
	n, m := node(t, setup()), node(t, setup())
	empty := api.Input{Scans: []api.Scan{}, Speeds: []api.Mark{}, Fixes: []api.Mark{}}
	if do(t, n, empty) != do(t, m, api.Input{}) || !n.Same(m) {
		t.Error(n.Know())
	}
	s := setup()
	s.Map.Zones, s.Map.Works, s.Map.Signals, s.Map.Lanes[0].Next = []api.Zone{}, []api.Work{}, []api.Signal{}, []int{}
	if !node(t, s).Same(node(t, setup())) {
		t.Error("a setup")
	}
	a, _ := drive.Actuate(car(), api.Actuator{Queue: []int64{}}, 5, 2, 90)
	b, _ := drive.Actuate(car(), api.Actuator{}, 5, 2, 90)
	if !sameActuators(a, b) {
		t.Error(a, b)
	}
}
