package world_test

import (
	"reflect"
	"testing"

	"kerbstone/api"
	"kerbstone/world"
)

// spoil changes every number in the memory of a value, also behind the ends of
// lists.
func spoil(x reflect.Value) {
	switch x.Kind() {
	case reflect.Struct:
		for i := range x.NumField() {
			spoil(x.Field(i))
		}
	case reflect.Slice:
		x = x.Slice(0, x.Cap())
		for i := range x.Len() {
			spoil(x.Index(i))
		}
	case reflect.Int, reflect.Int64:
		x.SetInt(x.Int() + 12345)
	case reflect.Bool:
		x.SetBool(!x.Bool())
	}
}

// spacious returns an equal list that has room behind its end.
func spacious[V any](l []V) []V {
	return append(make([]V, 0, len(l)+5), l...)
}

// arguments are arguments for all functions.
type arguments struct {
	M      api.Map
	S      api.State
	Acts   []int64
	Noise  []int64
	Number int64
}

// example returns arguments whose lists have room.
func example() arguments {
	x := arguments{M: fork(), Acts: spacious([]int64{30, -20, 5}), Noise: spacious([]int64{5, 6, 7, 8}), Number: 2}
	l := []api.Agent{agent(19000, 800, 0, 2, 3), agent(10000, 500, 1, 2, 4), agent(71000, 20, 0, 2, 3), agent(2000, 0, 7), agent(12000, 900, 5, 6)}
	for i := range l {
		l[i].Route = spacious(l[i].Route)
	}
	x.S = state(4, spacious(l)...)
	x.S.In = spacious([]api.Stay{{Agent: 0, Zone: 0, Since: 3, Rank: 2}, {Agent: 2, Zone: 1, Since: 2, Rank: 1}})
	return x
}

// call calls all functions, and returns what they return.
func call(x arguments) []any {
	a, b := x.S.Agents[0], x.S.Agents[1]
	first, e := world.New(x.M, x.S.Agents)
	second, crashes, f := world.Step(x.M, x.S, x.Acts)
	text := world.Bytes(x.S)
	read, g := world.Read(text)
	results := []any{
		world.Check(x.M, x.S), first, e, second, crashes, f, text, read, g, world.Copy(x.S), world.Same(x.S, first),
		world.Body(x.M, a), world.Body(x.M, a), world.Touching(x.M, a, b), world.Present(x.M, a, b, 0), world.Rank(x.M, a, 0, 3),
		world.Seen(x.M, x.S, 90000), world.Sense(x.M, x.S, 90000, x.Noise), world.Sense(x.M, x.S, 90000, x.Noise),
		world.Speed(x.S, x.Number), world.Fix(x.S, x.Number), world.Stop(x.Number, 1), world.There(x.S, 1),
	}
	for i := range x.S.Agents {
		results = append(results, world.Move(x.M, x.S, i, 10), world.Move(api.Map{}, x.S, i, 10))
	}
	return results
}

// R4: arguments are not changed, and results share no memory with them, nor
// with each other.
func TestMemory(t *testing.T) {
	x := example()
	results := call(x)
	if !reflect.DeepEqual(x, example()) {
		t.Error("an argument is changed")
	}
	if e := results[2]; e != api.OK {
		t.Fatal(e)
	}
	want := call(example())
	for i, r := range results {
		if !reflect.DeepEqual(r, want[i]) {
			t.Error(i, "another result of the same arguments", r, want[i])
		}
		v := reflect.New(reflect.TypeOf(r)).Elem()
		v.Set(reflect.ValueOf(r))
		spoil(v)
		if !reflect.DeepEqual(x, example()) {
			t.Fatal(i, "a result shares memory with an argument")
		}
		for k := i + 1; k < len(results); k++ {
			if !reflect.DeepEqual(results[k], want[k]) {
				t.Fatal(i, k, "results share memory")
			}
		}
	}
	// Nothing is kept of the arguments.
	y := example()
	results = call(y)
	spoil(reflect.ValueOf(&y).Elem())
	if !reflect.DeepEqual(results, want) {
		t.Error("a result changes with an argument")
	}
}

// R4: what is behind the end of a list of an argument is left alone.
func TestRoomBehindArguments(t *testing.T) {
	x := example()
	call(x)
	for i, n := range x.Acts[:cap(x.Acts)] {
		if i >= len(x.Acts) && n != 0 {
			t.Error("acts", i)
		}
	}
	for i, y := range x.S.In[:cap(x.S.In)] {
		if i >= len(x.S.In) && y != (api.Stay{}) {
			t.Error("stays", i)
		}
	}
	for i, a := range x.S.Agents[:cap(x.S.Agents)] {
		if i >= len(x.S.Agents) && !sameAgent(a, api.Agent{}) {
			t.Error("agents", i)
		}
	}
	for i, a := range x.S.Agents {
		for k, n := range a.Route[:cap(a.Route)] {
			if k >= len(a.Route) && n != 0 {
				t.Error("a route", i, k)
			}
		}
	}
}
