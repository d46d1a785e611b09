package world_test

import (
	"encoding/binary"
	"reflect"
	"slices"
	"testing"

	"kerbstone/api"
	"kerbstone/world"
)

// numbersOf returns the numbers of the bytes of a state, valid or not.
func numbersOf(s api.State) []int64 {
	truth := map[bool]int64{true: 1}
	l := []int64{s.Tick, int64(len(s.Agents))}
	for _, a := range s.Agents {
		l = append(l, int64(len(a.Route)))
		for _, lane := range a.Route {
			l = append(l, int64(lane))
		}
		l = append(l, a.S, a.V, a.Len, a.Begin, truth[a.Obey], truth[a.Gone])
	}
	l = append(l, int64(len(s.In)))
	for _, x := range s.In {
		l = append(l, int64(x.Agent), int64(x.Zone), x.Since, int64(x.Rank))
	}
	return l
}

// text returns the bytes of numbers.
func text(numbers []int64) string {
	b := []byte("kbw1")
	for _, n := range numbers {
		b = binary.BigEndian.AppendUint64(b, uint64(n))
	}
	return string(b)
}

// strange returns states with all that a state may be read with, valid or not.
func strange() []api.State {
	long := api.Agent{Route: []int{far, low, -1, 0, 0, 5, 4, 3}, S: low, V: far, Len: -1, Begin: 256, Obey: true, Gone: true}
	return []api.State{
		{}, {Tick: low}, {Tick: far}, {Agents: []api.Agent{{}}}, {In: []api.Stay{{}}}, state(258, long),
		{Tick: -2, Agents: slices.Repeat([]api.Agent{long}, 8), In: slices.Repeat([]api.Stay{{Agent: far, Zone: low, Since: -1, Rank: -1}}, 96)},
		{Agents: []api.Agent{{Obey: true}, {Gone: true}, {}}, In: []api.Stay{{Agent: 4}, {Zone: 3}, {Since: 2}, {Rank: 1}}}, full(), ahead(),
	}
}

// P4.7
func TestBytes(t *testing.T) {
	small := api.State{Tick: 258, Agents: []api.Agent{{Route: []int{-1}, S: 1, V: 2, Len: 3, Begin: 4, Obey: true}}, In: []api.Stay{{Agent: 5, Zone: 6, Since: 7, Rank: 8}}}
	want := "kbw1"
	for _, n := range []string{"\x01\x02", "\x01", "\x01", "-1", "\x01", "\x02", "\x03", "\x04", "\x01", "\x00", "\x01", "\x05", "\x06", "\x07", "\x08"} {
		if n == "-1" {
			n = "\xff\xff\xff\xff\xff\xff\xff\xff"
		}
		want += "\x00\x00\x00\x00\x00\x00\x00\x00"[len(n):] + n
	}
	if b := world.Bytes(small); b != want {
		t.Errorf("%q", b)
	}
	if s, e := world.Read(want); e != api.OK || !reflect.DeepEqual(s, small) {
		t.Error(s, e)
	}
	small.Agents[0].Obey, small.Agents[0].Gone = false, true
	if b := world.Bytes(small); b != text(numbersOf(small)) || b == want {
		t.Errorf("%q", b)
	}
	if b := world.Bytes(api.State{}); b != text([]int64{0, 0, 0}) {
		t.Errorf("%q", b)
	}
	for i, s := range strange() {
		if b := world.Bytes(s); b != text(numbersOf(s)) {
			t.Errorf("%d %q", i, b)
		}
	}
	for i, x := range stages(t, 61, 300) {
		if b := world.Bytes(x.s); b != text(numbersOf(x.s)) {
			t.Error(i, x.s)
		}
	}
}

// reads tests what Read makes of a string: a state only if it has these bytes.
func reads(t *testing.T, b string) bool {
	t.Helper()
	s, e := world.Read(b)
	switch e {
	case api.OK:
		if text(numbersOf(s)) != b {
			t.Error(s, "has not the bytes", []byte(b))
		}
	case api.ErrForm:
		if !reflect.DeepEqual(s, api.State{}) {
			t.Error(s, e)
		}
	default:
		t.Error(e)
	}
	return e == api.OK
}

// P4.7, P4.14
func TestReadOfBytes(t *testing.T) {
	list := strange()
	for _, x := range stages(t, 62, 300) {
		list = append(list, x.s)
	}
	for i, s := range list {
		to, e := world.Read(world.Bytes(s))
		if e != api.OK || !world.Same(to, s) || !slices.Equal(numbersOf(to), numbersOf(s)) {
			t.Error(i, e, to)
		}
	}
}

// P4.7
func TestReadErrors(t *testing.T) {
	for i, s := range []api.State{full(), ahead(), {}} {
		b := text(numbersOf(s))
		for n := range len(b) {
			if reads(t, b[:n]) || reads(t, b[n:]) != (n == 0) {
				t.Error(i, n, "a part of the bytes is read")
			}
		}
		for _, more := range []string{"\x00", "kbw1", "\x00\x00\x00\x00\x00\x00\x00\x00", b} {
			if reads(t, b+more) || reads(t, more+b) {
				t.Error(i, more, "more than the bytes is read")
			}
		}
		for _, mark := range []string{"kbw0", "kbw2", "Kbw1", "kbm1", "kbn1", "\x00\x00\x00\x00"} {
			if reads(t, mark+b[4:]) {
				t.Error(i, mark)
			}
		}
	}
	// As much as may be read, and one more.
	for i, n := range []int{8, 9, 10, 200} {
		if s := state(0, make([]api.Agent, n)...); reads(t, text(numbersOf(s))) != (i == 0) {
			t.Error(n, "agents")
		}
		if s := state(0, api.Agent{Route: make([]int, n)}); reads(t, text(numbersOf(s))) != (i == 0) {
			t.Error(n, "lanes")
		}
		if s := (api.State{In: make([]api.Stay, 88+n)}); reads(t, text(numbersOf(s))) != (i == 0) {
			t.Error(88+n, "stays")
		}
	}
	for _, l := range [][]int64{{0}, {0, 0}, {0, 0, -1}, {0, -1, 0}, {0, far, 0}, {0, low, 0}, {0, 0, far}, {0, 0, low}, {0, 0, 1}, {0, 1, 0}, {0, 1, -1, 0, 0, 0, 0, 0, 0, 0}, {0, 1, far, 0}} {
		if reads(t, text(l)) {
			t.Error(l, "is read")
		}
	}
}

// P4.7: each number is read as it is, or not at all.
func TestReadOfOtherNumbers(t *testing.T) {
	read := 0
	for _, s := range []api.State{full(), ahead()} {
		numbers := numbersOf(s)
		for n, old := range numbers {
			for _, x := range []int64{old - 1, old + 1, 0, 1, 2, -1, old + 1<<32, far, low} {
				other := slices.Clone(numbers)
				other[n] = x
				if reads(t, text(other)) && x != old {
					read++
				}
			}
			reads(t, text(slices.Delete(slices.Clone(numbers), n, n+1)))
			reads(t, text(slices.Insert(slices.Clone(numbers), n, 0)))
		}
	}
	if read < 300 {
		t.Error("too few other states were read to show anything:", read)
	}
	// A truth is 0 or 1.
	for _, n := range []int64{0, 1, 2, -1, 256, far, low} {
		if reads(t, text([]int64{0, 1, 0, 0, 0, 0, 0, n, 0, 0})) != (n == 0 || n == 1) || reads(t, text([]int64{0, 1, 0, 0, 0, 0, 0, 0, n, 0})) != (n == 0 || n == 1) {
			t.Error(n)
		}
	}
}

// P4.7
func TestSame(t *testing.T) {
	for i, change := range []func(s *api.State){
		func(s *api.State) { s.Tick++ },
		func(s *api.State) { s.Agents[3].Route[1]++ },
		func(s *api.State) { s.Agents[3].Route = s.Agents[3].Route[:1] },
		func(s *api.State) { s.Agents[3].Route = append(s.Agents[3].Route, 0) },
		func(s *api.State) { s.Agents[7].S++ },
		func(s *api.State) { s.Agents[0].V-- },
		func(s *api.State) { s.Agents[1].Len++ },
		func(s *api.State) { s.Agents[6].Begin-- },
		func(s *api.State) { s.Agents[0].Obey = false },
		func(s *api.State) { s.Agents[0].Gone = true },
		func(s *api.State) { s.Agents = s.Agents[:7] },
		func(s *api.State) { s.Agents = append(s.Agents, api.Agent{}) },
		func(s *api.State) { s.In[4].Agent-- },
		func(s *api.State) { s.In[0].Zone-- },
		func(s *api.State) { s.In[3].Since++ },
		func(s *api.State) { s.In[2].Rank++ },
		func(s *api.State) { s.In = s.In[:4] },
		func(s *api.State) { s.In = append(s.In, api.Stay{}) },
		func(s *api.State) { *s = api.State{} },
	} {
		s := full()
		change(&s)
		if world.Same(s, full()) || world.Same(full(), s) || !world.Same(s, s) {
			t.Error(i)
		}
	}
	if !world.Same(full(), full()) || !world.Same(api.State{}, api.State{Agents: []api.Agent{}, In: []api.Stay{}}) || !world.Same(state(0, api.Agent{Route: []int{}}), state(0, api.Agent{})) {
		t.Error("equal states are not the same")
	}
}

// P4.7
func TestCopy(t *testing.T) {
	for i, s := range strange() {
		to := world.Copy(s)
		if !world.Same(to, s) || !slices.Equal(numbersOf(to), numbersOf(s)) {
			t.Error(i, to)
		}
		spoil(reflect.ValueOf(&to).Elem())
		if !world.Same(s, strange()[i]) {
			t.Error(i, "a copy shares memory")
		}
	}
}
