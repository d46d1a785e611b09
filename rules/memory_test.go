package rules_test

import (
	"reflect"
	"slices"
	"testing"

	"kerbstone/api"
	"kerbstone/rules"
)

// spoil changes every number in the memory of a value, also behind the ends of
// lists.
func spoil(x reflect.Value) {
	switch x.Kind() {
	case reflect.Struct:
		for i := range x.NumField() {
			spoil(x.Field(i))
		}
	case reflect.Slice:
		x = x.Slice(0, x.Cap())
		for i := range x.Len() {
			spoil(x.Index(i))
		}
	case reflect.Int, reflect.Int64:
		x.SetInt(x.Int() + 12345)
	case reflect.Bool:
		x.SetBool(!x.Bool())
	}
}

// spacious returns an equal list that has room behind its end.
func spacious[V any](l []V) []V {
	return append(make([]V, 0, len(l)+5), l...)
}

// spaciousRows returns equal rows; all lists have room behind their ends.
func spaciousRows(t [][]int64) [][]int64 {
	t = spacious(t)
	for i := range t {
		t[i] = spacious(t[i])
	}
	return t
}

// arguments are arguments for all functions.
type arguments struct {
	F    []api.Node
	P    []api.Choice
	T, U [][]int64
	W    api.Watch
	B    []api.Law
}

// example returns arguments whose lists have room.
func example() arguments {
	x := arguments{F: spacious(some(0, 2, le(0, 1, -2))), P: spacious(plantQ()), T: spaciousRows(table(2, 3, 3, 3, 4, 3, 5)), U: spaciousRows(table(2, 4, 4, 5, 5))}
	x.W = api.Watch{Nodes: spacious(x.F), Width: 2, From: 7, Rows: spaciousRows(table(2, 3, 3, 3, 4)), Open: spacious([]int64{7, 8})}
	x.B = spacious([]api.Law{law(1, spacious(le(0, -1, 2))), law(1, spacious(yes())), law(0, spacious(le(0, 1, -1)))})
	return x
}

// call calls all functions, and returns what they return.
func call(x arguments) []any {
	begun, e0 := rules.Begin(x.F, 2)
	w, said, e1 := rules.Push(x.W, x.U[0])
	w2, said2, e2 := rules.Push(w, x.U[1])
	v, e3 := rules.Eval(x.F, 2, x.T, 0)
	costs, e4 := rules.Costs(x.B, 2, x.T)
	better, e5 := rules.Better(x.B, 2, x.T, x.U)
	next, e6 := rules.Follows(x.P, x.T[0])
	ok, e7 := rules.Possible(x.F, x.P, x.T)
	ok2, e8 := rules.Possible(x.F, x.P, x.T[:1])
	lost, is, e9 := rules.Return(x.F, x.P, x.T)
	text, e10 := rules.Text(x.F)
	parsed, e11 := rules.Parse(text)
	return []any{
		[]api.Errno{e0, e1, e2, e3, e4, e5, e6, e7, e8, e9, e10, e11}, begun, w, said, w2, said2, v, costs, better, next, ok, ok2, lost, is, text, parsed,
		rules.Check(x.F, 2), rules.CheckTrace(x.T, 2), rules.Horizon(x.F), rules.CheckWatch(x.W), rules.CheckBook(x.B, 2), rules.CheckPlant(x.P),
	}
}

// R4: arguments are not changed, and results share no memory with them, nor
// with each other.
func TestMemory(t *testing.T) {
	x := example()
	results := call(x)
	if !reflect.DeepEqual(x, example()) {
		t.Error("an argument is changed")
	}
	if slices.ContainsFunc(results[0].([]api.Errno), func(e api.Errno) bool { return e != api.OK }) {
		t.Fatal(results[0])
	}
	want := call(example())
	for i, r := range results {
		if !reflect.DeepEqual(r, want[i]) {
			t.Error(i, "another result of the same arguments", r, want[i])
		}
		v := reflect.New(reflect.TypeOf(r)).Elem()
		v.Set(reflect.ValueOf(r))
		spoil(v)
		if !reflect.DeepEqual(x, example()) {
			t.Fatal(i, "a result shares memory with an argument")
		}
		for k := i + 1; k < len(results); k++ {
			if !reflect.DeepEqual(results[k], want[k]) {
				t.Fatal(i, k, "results share memory")
			}
		}
	}
	// Nothing is kept of the arguments.
	y := example()
	results = call(y)
	spoil(reflect.ValueOf(&y).Elem())
	if !reflect.DeepEqual(results, want) {
		t.Error("a result changes with an argument")
	}
}

// R4: the rows of a result share no memory with each other, even if those of an
// argument do.
func TestRowsApart(t *testing.T) {
	row := []int64{9}
	f := some(0, 5, atMost(5))
	w, _ := push(t, begin(t, f, 1), row, row, row)
	next, _ := rules.Follows([]api.Choice{choice(0, -1, 1), choice(0, -1, 1)}, []int64{5, 5})
	shared := api.Watch{Nodes: f, Width: 1, Rows: [][]int64{row, row}, Open: []int64{0, 1}}
	v, _ := push(t, shared, row)
	for i, rows := range [][][]int64{w.Rows, next, v.Rows} {
		before := spaciousRows(rows)
		for k := range rows {
			spoil(reflect.ValueOf(rows[k]))
			for n := range rows {
				if n > k && !slices.Equal(rows[n], before[n]) || n <= k && rows[n][0] != before[n][0]+12345 {
					t.Fatal(i, k, n)
				}
			}
		}
	}
	if row[0] != 9 {
		t.Error(row)
	}
}

// R4: what is behind the end of a list of an argument is left alone.
func TestRoomBehindArguments(t *testing.T) {
	x := example()
	call(x)
	lists := []reflect.Value{reflect.ValueOf(x.F), reflect.ValueOf(x.P), reflect.ValueOf(x.T), reflect.ValueOf(x.U), reflect.ValueOf(x.W.Nodes), reflect.ValueOf(x.W.Rows), reflect.ValueOf(x.W.Open), reflect.ValueOf(x.B)}
	for _, row := range slices.Concat(x.T, x.U, x.W.Rows) {
		lists = append(lists, reflect.ValueOf(row))
	}
	for _, l := range lists {
		behind := l.Slice(0, l.Cap())
		for i := l.Len(); i < behind.Len(); i++ {
			if !behind.Index(i).IsZero() {
				t.Error(l.Type(), i, behind.Index(i))
			}
		}
	}
}

// R4: nil lists are equal to empty ones.
func TestEmptyLists(t *testing.T) {
	f := some(0, 2, atMost(5))
	a := api.Watch{Nodes: f, Width: 1, Rows: [][]int64{}, Open: []int64{}}
	w, _ := push(t, a, []int64{9})
	if v, _ := push(t, begin(t, f, 1), []int64{9}); !equal(w, v) {
		t.Error(w, v)
	}
	for i, rows := range [][][]int64{nil, {}} {
		if v, e := rules.Eval(f, 1, rows, 0); v != api.Open || e != api.OK {
			t.Error(i, v, e)
		}
		if v, e := rules.Better([]api.Law{}, 1, rows, nil); v != 0 || e != api.OK {
			t.Error(i, v, e)
		}
	}
}
