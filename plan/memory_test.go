package plan_test

import (
	"reflect"
	"testing"

	"kerbstone/api"
	"kerbstone/plan"
)

// spoil changes every number in the memory of a value, also behind the ends of
// lists.
func spoil(x reflect.Value) {
	switch x.Kind() {
	case reflect.Struct:
		for i := range x.NumField() {
			spoil(x.Field(i))
		}
	case reflect.Slice:
		x = x.Slice(0, x.Cap())
		for i := range x.Len() {
			spoil(x.Index(i))
		}
	case reflect.Int, reflect.Int64:
		x.SetInt(x.Int() + 12345)
	case reflect.Bool:
		x.SetBool(!x.Bool())
	}
}

// spacious returns an equal list that has room behind its end.
func spacious[V any](l []V) []V {
	return append(make([]V, 0, len(l)+5), l...)
}

// arguments are arguments for all functions.
type arguments struct {
	M          api.Map
	Route      []int
	K          api.Know
	Queue      []int64
	Plan, Stop api.Plan
}

// example returns arguments whose lists have room.
func example() arguments {
	x := arguments{M: lights(), Route: spacious([]int{0}), Queue: spacious([]int64{5, 10})}
	x.M.Works = spacious([]api.Work{work(0, 100, 200, 0, 50, 40)})
	x.M.Zones[0].Parts = spacious(x.M.Zones[0].Parts)
	x.K = know(3, ego(10000, 10010, 40, 45))
	x.K.Blobs = spacious([]api.Blob{blob(0, 20000, 30000, 0, 100), blob(1, 500, 9000, 10, 20)})
	x.Plan, x.Stop = api.Plan{Acts: spacious([]int64{5, 10, -10, -40})}, api.Plan{Acts: spacious([]int64{-20})}
	return x
}

// call calls all functions, and returns what they return.
func call(x arguments) []any {
	known, e := plan.Predict(x.M, x.Route, car(), x.K, x.Plan, 6, true)
	found, looked, ok := plan.Search(x.M, x.Route, car(), x.K, x.Queue, 5, 8, true)
	none, looked2, ok2 := plan.Search(x.M, x.Route, car(), x.K, x.Queue, 5, 0, true)
	return []any{
		e, known, found, looked, ok, none, looked2, ok2,
		plan.CheckCar(car()), plan.Check(car(), x.Plan), plan.Act(x.Plan, 2), plan.Tail(x.Plan), plan.Tail(x.Stop), plan.Tail(x.Plan), plan.Ramp(car(), 1, 2), plan.Stops(car(), 5, 300),
		plan.Least(x.M, x.Route, 0, 500, 5), plan.Verify(x.M, x.Route, car(), x.K, x.Plan, true), plan.Verify(x.M, x.Route, car(), x.K, x.Stop, true),
		plan.Profile(car(), x.Queue, 5, 100, 3, 2), plan.Profile(car(), x.Queue, 5, 100, 3, 2), plan.Candidates(car(), x.Queue, 5, 100), plan.Candidates(car(), nil, 5, 100),
		plan.Way(x.K.Ego, x.Plan), plan.Same(x.Plan, x.Stop),
	}
}

// R4: arguments are not changed, and results share no memory with them, nor
// with each other.
func TestMemory(t *testing.T) {
	x := example()
	results := call(x)
	if !reflect.DeepEqual(x, example()) {
		t.Error("an argument is changed")
	}
	if results[0] != api.OK || results[4] != true {
		t.Fatal(results[:5])
	}
	want := call(example())
	for i, r := range results {
		if !reflect.DeepEqual(r, want[i]) {
			t.Error(i, "another result of the same arguments", r, want[i])
		}
		v := reflect.New(reflect.TypeOf(r)).Elem()
		v.Set(reflect.ValueOf(r))
		spoil(v)
		if !reflect.DeepEqual(x, example()) {
			t.Fatal(i, "a result shares memory with an argument")
		}
		for k := i + 1; k < len(results); k++ {
			if !reflect.DeepEqual(results[k], want[k]) {
				t.Fatal(i, k, "results share memory")
			}
		}
	}
	// Nothing is kept of the arguments.
	y := example()
	results = call(y)
	spoil(reflect.ValueOf(&y).Elem())
	if !reflect.DeepEqual(results, want) {
		t.Error("a result changes with an argument")
	}
}

// R4: the parts of one result share no memory.
func TestPartsOfResults(t *testing.T) {
	x := example()
	list := plan.Candidates(car(), x.Queue, 5, 100)
	known, _ := plan.Predict(x.M, x.Route, car(), x.K, x.Plan, 6, true)
	wantList, wantKnown := plan.Candidates(car(), x.Queue, 5, 100), call(x)[1].([]api.Know)
	for i := range list {
		spoil(reflect.ValueOf(list[i].Acts))
		if !reflect.DeepEqual(list[i+1:], wantList[i+1:]) {
			t.Error(i)
		}
	}
	for i := range known {
		spoil(reflect.ValueOf(known[i].Blobs))
		if !reflect.DeepEqual(known[i+1:], wantKnown[i+1:]) {
			t.Error(i)
		}
	}
}

// R4: what is behind the end of a list of an argument is left alone, and an
// empty list is as good as none.
func TestRoomBehindArguments(t *testing.T) {
	x := example()
	call(x)
	for _, l := range []reflect.Value{reflect.ValueOf(x.Route), reflect.ValueOf(x.K.Blobs), reflect.ValueOf(x.Queue), reflect.ValueOf(x.Plan.Acts), reflect.ValueOf(x.Stop.Acts), reflect.ValueOf(x.M.Works), reflect.ValueOf(x.M.Zones[0].Parts)} {
		behind := l.Slice(0, l.Cap())
		for i := l.Len(); i < behind.Len(); i++ {
			if !behind.Index(i).IsZero() {
				t.Error(l.Type(), i, behind.Index(i))
			}
		}
	}
	if !plan.Same(plan.Profile(car(), []int64{}, 0, 9, 1, 1), plan.Profile(car(), nil, 0, 9, 1, 1)) || plan.Check(car(), api.Plan{Acts: []int64{}}) != api.ErrShort || len(plan.Tail(api.Plan{Acts: []int64{}}).Acts) > 0 {
		t.Error("an empty list")
	}
}
