package track_test

import (
	"reflect"
	"testing"

	"kerbstone/api"
	"kerbstone/track"
)

// spoil changes every number in the memory of a value, also behind the ends of
// lists.
func spoil(x reflect.Value) {
	switch x.Kind() {
	case reflect.Struct:
		for i := range x.NumField() {
			spoil(x.Field(i))
		}
	case reflect.Slice:
		x = x.Slice(0, x.Cap())
		for i := range x.Len() {
			spoil(x.Index(i))
		}
	case reflect.Int, reflect.Int64:
		x.SetInt(x.Int() + 12345)
	case reflect.Bool:
		x.SetBool(!x.Bool())
	}
}

// spacious returns an equal list that has room behind its end.
func spacious[V any](l []V) []V {
	return append(make([]V, 0, len(l)+5), l...)
}

// arguments are arguments for all functions.
type arguments struct {
	M     api.Map
	Route []int
	K     api.Know
	S     api.State
	Scan  api.Scan
	Found []api.Found
}

// example returns arguments whose lists have room.
func example() arguments {
	x := arguments{M: fork(), Route: spacious([]int{0, 2, 3}), K: full()}
	x.K.Ego = ego(3500, 3600, 5, 9)
	x.K.Blobs = spacious(x.K.Blobs)
	x.S = api.State{Tick: 50, Agents: spacious([]api.Agent{agent(3550, 7, 0, 2, 3), agent(1900, 90, 0), agent(800, 300, 8)})}
	x.Scan = api.Scan{Stamp: 50, Seen: spacious([]api.Span{span(0, 0, 2000), span(6, 0, 1500)}), Points: spacious(points(1500, 0, 7, 2800, 10, 9, 4, 9000, 6))}
	x.Found = spacious([]api.Found{hit(6, 5, 9, 0, 0), hit(0, 100, 200, 4, 4)})
	return x
}

// call calls all functions, and returns what they return.
func call(x arguments) []any {
	to, sweeps, e := track.Step(x.M, x.Route, 500, x.K, 7, true)
	v, ok := track.Speed(x.K, mark(50, 6, 8))
	s, ok2 := track.Fix(x.K, mark(50, 3550, 9000))
	v2, ok3 := track.Speed(x.K, mark(51, 6, 8))
	s2, ok4 := track.Fix(x.K, mark(50, 0, 0))
	stale := x.Scan
	stale.Stamp++
	return []any{
		e, to, sweeps, track.Check(x.M, x.K), track.All(x.M, 50, x.K.Ego), track.Join(x.K.Blobs), track.Join(x.K.Blobs[:1]),
		track.Own(x.M, x.Route, 500, x.K), track.Own(x.M, nil, 500, x.K), track.Own(x.M, x.Route, 20000, x.K),
		track.Found(x.M, x.Scan.Points), track.Free(x.M, x.Scan.Seen, x.Found), track.Free(x.M, x.Scan.Seen, nil),
		track.Update(x.M, x.K, x.Scan), track.Update(x.M, x.K, stale), track.Update(x.M, x.K, api.Scan{Stamp: 50}), track.Explained(x.M, x.K, x.Scan.Points),
		v, ok, s, ok2, v2, ok3, s2, ok4, track.Covers(x.M, x.S, x.K), track.Inside(x.K, v), track.Same(x.K, v), track.Copy(x.K), track.Copy(x.K),
	}
}

// R4: arguments are not changed, and results share no memory with them, nor
// with each other.
func TestMemory(t *testing.T) {
	x := example()
	results := call(x)
	if !reflect.DeepEqual(x, example()) {
		t.Error("an argument is changed")
	}
	if e := results[0]; e != api.OK {
		t.Fatal(e)
	}
	want := call(example())
	for i, r := range results {
		if !reflect.DeepEqual(r, want[i]) {
			t.Error(i, "another result of the same arguments", r, want[i])
		}
		v := reflect.New(reflect.TypeOf(r)).Elem()
		v.Set(reflect.ValueOf(r))
		spoil(v)
		if !reflect.DeepEqual(x, example()) {
			t.Fatal(i, "a result shares memory with an argument")
		}
		for k := i + 1; k < len(results); k++ {
			if !reflect.DeepEqual(results[k], want[k]) {
				t.Fatal(i, k, "results share memory")
			}
		}
	}
	// Nothing is kept of the arguments.
	y := example()
	results = call(y)
	spoil(reflect.ValueOf(&y).Elem())
	if !reflect.DeepEqual(results, want) {
		t.Error("a result changes with an argument")
	}
}

// R4: what is behind the end of a list of an argument is left alone.
func TestRoomBehindArguments(t *testing.T) {
	x := example()
	call(x)
	for _, l := range []reflect.Value{reflect.ValueOf(x.Route), reflect.ValueOf(x.K.Blobs), reflect.ValueOf(x.Scan.Seen), reflect.ValueOf(x.Scan.Points), reflect.ValueOf(x.Found)} {
		behind := l.Slice(0, l.Cap())
		for i := l.Len(); i < behind.Len(); i++ {
			if !behind.Index(i).IsZero() {
				t.Error(l.Type(), i, behind.Index(i))
			}
		}
	}
}
