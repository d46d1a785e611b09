package track_test

import (
	"slices"
	"testing"

	"kerbstone/api"
	"kerbstone/track"
)

// full is something valid that is known on the fork, with numbers as small and
// as great as they may be.
func full() api.Know {
	return know(50, ego(5, 9000, 0, 2000),
		blob(0, 0, 2000, 0, 2000, 3000), blob(0, 2002, 3000, 2000, 2000),
		blob(2, 0, 0, 7, 7), blob(2, 1000, 1000),
		blob(6, 3, 4, 0, 1000, 1500), blob(6, 6, 6, 1000, 1000, 1),
		blob(8, 0, 2000, 300, 300, 2000),
	)
}

// flaw is a change that makes what is known invalid, and the error.
type flaw struct {
	want api.Errno
	make func(m *api.Map, k *api.Know)
}

// put makes flaws with one error: one for each value of a field.
func put(want api.Errno, field func(k *api.Know) *int64, values ...int64) []flaw {
	var all []flaw
	for _, v := range values {
		all = append(all, flaw{want, func(m *api.Map, k *api.Know) { *field(k) = v }})
	}
	return all
}

// flaws returns flaws. Those of one list are found at one place of the check;
// the lists are in the order in which they are found.
func flaws() [][]flaw {
	all := [][]flaw{
		{{api.ErrShort, func(m *api.Map, k *api.Know) { m.Lanes = nil }}, {api.ErrRange, func(m *api.Map, k *api.Know) { m.Version = -1 }}, {api.ErrKind, func(m *api.Map, k *api.Know) { m.Lanes[2].Kind = 4 }}},
		slices.Concat(
			put(api.ErrRange, func(k *api.Know) *int64 { return &k.Tick }, -1, api.MaxTick+1, low, far),
			put(api.ErrRange, func(k *api.Know) *int64 { return &k.Ego.SLo }, -1, 9001, low, far),
			put(api.ErrRange, func(k *api.Know) *int64 { return &k.Ego.SHi }, 4, api.MaxTick+1, low, far),
			put(api.ErrRange, func(k *api.Know) *int64 { return &k.Ego.VLo }, -1, 2001, low, far),
			put(api.ErrRange, func(k *api.Know) *int64 { return &k.Ego.VHi }, -1, 2001, low, far),
		),
	}
	for i := range full().Blobs {
		at := func(k *api.Know) *api.Blob { return &k.Blobs[i] }
		missing := func(lane int) flaw {
			return flaw{api.ErrMissing, func(m *api.Map, k *api.Know) { at(k).Lane = lane }}
		}
		all = append(all, []flaw{missing(-1), missing(9), missing(far), missing(low)}, slices.Concat(
			put(api.ErrRange, func(k *api.Know) *int64 { return &at(k).Lo }, -1, 6000, low, far),
			put(api.ErrRange, func(k *api.Know) *int64 { return &at(k).Hi }, -1, 6000, low, far),
			put(api.ErrRange, func(k *api.Know) *int64 { return &at(k).VLo }, -1, 2001, low, far),
			put(api.ErrRange, func(k *api.Know) *int64 { return &at(k).VHi }, -1, 2001, low, far),
			put(api.ErrRange, func(k *api.Know) *int64 { return &at(k).Hold }, -1, 6000, low, far),
		))
		if i > 0 {
			all = append(all, []flaw{{api.ErrOrder, func(m *api.Map, k *api.Know) { k.Blobs[i-1] = full().Blobs[i] }}})
		}
	}
	return all
}

// P5.1
func TestCheckReasons(t *testing.T) {
	if e := track.Check(fork(), full()); e != api.OK {
		t.Fatal(e)
	}
	for i, place := range flaws() {
		for n, f := range place {
			m, k := fork(), full()
			f.make(&m, &k)
			if e := track.Check(m, k); e != f.want {
				t.Error(i, n, e, f.want)
			}
		}
	}
}

// P5.1, R1: of two flaws the one that is found first counts.
func TestFirstReason(t *testing.T) {
	places := flaws()
	for i, place := range places {
		for n, later := range places[i+1:] {
			for x, f := range place {
				m, k := fork(), full()
				later[x%len(later)].make(&m, &k)
				f.make(&m, &k)
				if e := track.Check(m, k); e != f.want {
					t.Fatal(i, n, x, e, f.want)
				}
			}
		}
	}
}

// P5.1: numbers as great and as small as they may be, and those next to them.
func TestCheckBounds(t *testing.T) {
	for i, x := range []struct {
		k    api.Know
		want api.Errno
	}{
		{api.Know{}, api.OK}, {know(api.MaxTick, api.Ego{}), api.OK}, {know(0, ego(api.MaxTick, api.MaxTick, 2000, 2000)), api.OK},
		{know(0, ego(0, api.MaxTick, 0, 2000)), api.OK}, {know(0, ego(5, 4, 0, 0)), api.ErrRange}, {know(0, ego(0, 0, 5, 4)), api.ErrRange},
		{know(0, ego(5, 5, 4, 4), []api.Blob{}...), api.OK},
		// The bounds of a blob are those of its lane.
		{know(0, api.Ego{}, blob(4, 0, 3000, 0, 2000, 3000)), api.OK}, {know(0, api.Ego{}, blob(4, 0, 3001)), api.ErrRange}, {know(0, api.Ego{}, blob(4, 0, 3000, 0, 0, 3001)), api.ErrRange},
		{know(0, api.Ego{}, blob(4, 3000, 3000)), api.OK}, {know(0, api.Ego{}, blob(4, 3001, 3001)), api.ErrRange}, {know(0, api.Ego{}, blob(4, 9, 8)), api.ErrRange},
		{know(0, api.Ego{}, blob(4, 0, 0, 2000, 2000)), api.OK}, {know(0, api.Ego{}, blob(4, 0, 0, 5, 2001)), api.ErrRange}, {know(0, api.Ego{}, blob(4, 0, 0, 6, 5)), api.ErrRange},
		{know(0, api.Ego{}, blob(6, 0, 1500, 0, 1000)), api.OK}, {know(0, api.Ego{}, blob(6, 0, 1501)), api.ErrRange}, {know(0, api.Ego{}, blob(6, 0, 0, 0, 1001)), api.ErrRange},
		{know(0, api.Ego{}, blob(8, 0, 2000, 0, 300)), api.OK}, {know(0, api.Ego{}, blob(8, 0, 2001)), api.ErrRange}, {know(0, api.Ego{}, blob(8, 0, 0, 0, 301)), api.ErrRange},
		// Each blob comes after the one before, with an offset between them.
		{know(0, api.Ego{}, blob(0, 0, 5), blob(0, 7, 9)), api.OK}, {know(0, api.Ego{}, blob(0, 0, 5), blob(0, 6, 9)), api.ErrOrder}, {know(0, api.Ego{}, blob(0, 0, 5), blob(0, 5, 9)), api.ErrOrder},
		{know(0, api.Ego{}, blob(0, 7, 9), blob(0, 0, 5)), api.ErrOrder}, {know(0, api.Ego{}, blob(0, 0, 9), blob(0, 2, 3)), api.ErrOrder}, {know(0, api.Ego{}, blob(0, 4, 4), blob(0, 4, 4)), api.ErrOrder},
		{know(0, api.Ego{}, blob(0, 0, 3000), blob(1, 0, 3000)), api.OK}, {know(0, api.Ego{}, blob(0, 3000, 3000), blob(1, 0, 0)), api.OK}, {know(0, api.Ego{}, blob(1, 0, 0), blob(0, 2, 3000)), api.ErrOrder},
		{know(0, api.Ego{}, blob(0, 0, 5), blob(0, 7, 9), blob(0, 10, 11)), api.ErrOrder}, {know(0, api.Ego{}, blob(0, 0, 5), blob(8, 7, 9), blob(2, 10, 11)), api.ErrOrder},
		{know(0, api.Ego{}, blob(0, 7, 9), blob(0, 0, 5), blob(9, 0, 0)), api.ErrOrder}, {know(0, api.Ego{}, blob(0, 7, 9), blob(9, 0, 5), blob(0, 0, 0)), api.ErrMissing},
	} {
		if e := track.Check(fork(), x.k); e != x.want {
			t.Error(i, e, x.want)
		}
	}
	if e := track.Check(api.Map{}, api.Know{Tick: -1}); e != api.ErrShort {
		t.Error(e)
	}
}

// P5.1
func TestAll(t *testing.T) {
	want := know(7, ego(1, 2, 3, 4),
		blob(0, 0, 3000, 0, 2000), blob(1, 0, 5000, 0, 2000), blob(2, 0, 1000, 0, 2000), blob(3, 0, 1000, 0, 2000), blob(4, 0, 3000, 0, 2000), blob(5, 0, 4000, 0, 2000),
		blob(6, 0, 1500, 0, 1000), blob(7, 0, 4500, 0, 1000), blob(8, 0, 2000, 0, 300),
	)
	if k := track.All(fork(), 7, ego(1, 2, 3, 4)); !same(k, want) || track.Check(fork(), k) != api.OK {
		t.Error(k)
	}
	// The tick and the vehicle may be any.
	for i, e := range []api.Ego{{}, ego(9, 8, 7, 6), ego(-1, far, low, 1)} {
		for _, tick := range []int64{0, -1, api.MaxTick, far, low} {
			if k := track.All(fork(), tick, e); !same(k, know(tick, e, want.Blobs...)) {
				t.Error(i, tick, k)
			}
			if k := track.All(api.Map{}, tick, e); !same(k, know(tick, e)) {
				t.Error(i, tick, k)
			}
			bad := fork()
			bad.Version = -1
			if k := track.All(bad, tick, e); !same(k, know(tick, e)) {
				t.Error(i, tick, k)
			}
		}
	}
}

// same reports whether the same is known.
func same(a, b api.Know) bool {
	return a.Tick == b.Tick && a.Ego == b.Ego && slices.Equal(a.Blobs, b.Blobs)
}

// P5.1
func TestJoinExamples(t *testing.T) {
	for i, x := range []struct{ l, want []api.Blob }{
		{[]api.Blob{blob(0, 5, 9), blob(0, 0, 4), blob(0, 11, 12), blob(0, 20, 19)}, []api.Blob{blob(0, 0, 9), blob(0, 11, 12)}},
		{nil, nil}, {[]api.Blob{}, nil}, {[]api.Blob{blob(0, 1, 0)}, nil}, {[]api.Blob{{}}, []api.Blob{{}}},
		{[]api.Blob{blob(1, 5, 9), blob(0, 5, 9)}, []api.Blob{blob(0, 5, 9), blob(1, 5, 9)}},
		{[]api.Blob{blob(0, 5, 9), blob(1, 10, 12)}, []api.Blob{blob(0, 5, 9), blob(1, 10, 12)}},
		{[]api.Blob{blob(0, 5, 9), blob(0, 0, 20)}, []api.Blob{blob(0, 0, 20)}},
		{[]api.Blob{blob(0, 0, 20), blob(0, 5, 9), blob(0, 21, 22)}, []api.Blob{blob(0, 0, 22)}},
		{[]api.Blob{blob(0, 0, 2), blob(0, 4, 6), blob(0, 3, 3)}, []api.Blob{blob(0, 0, 6)}},
		{[]api.Blob{blob(0, 0, 2), blob(0, 4, 6)}, []api.Blob{blob(0, 0, 2), blob(0, 4, 6)}},
		{[]api.Blob{blob(0, 0, 2), blob(0, 3, 2), blob(0, 4, 6)}, []api.Blob{blob(0, 0, 2), blob(0, 4, 6)}},
		// The least and the greatest speeds; the greatest Hold, if all have one.
		{[]api.Blob{blob(0, 0, 4, 3, 5, 7), blob(0, 5, 9, 2, 9, 6)}, []api.Blob{blob(0, 0, 9, 2, 9, 7)}},
		{[]api.Blob{blob(0, 0, 4, 2, 9, 6), blob(0, 5, 9, 3, 5, 7)}, []api.Blob{blob(0, 0, 9, 2, 9, 7)}},
		{[]api.Blob{blob(0, 0, 4, 3, 5, 7), blob(0, 5, 9, 4, 4, 0)}, []api.Blob{blob(0, 0, 9, 3, 5, 0)}},
		{[]api.Blob{blob(0, 0, 4, 3, 5, 0), blob(0, 5, 9, 4, 4, 7)}, []api.Blob{blob(0, 0, 9, 3, 5, 0)}},
		{[]api.Blob{blob(0, 0, 4, 3, 5, 7), blob(0, 5, 9, 1, 1, 0), blob(0, 8, 12, 4, 6, 5)}, []api.Blob{blob(0, 0, 12, 1, 6, 0)}},
		{[]api.Blob{blob(0, 0, 4, 3, 5, 7), blob(0, 9, 5, 1, 9, 0)}, []api.Blob{blob(0, 0, 4, 3, 5, 7)}},
		// Blobs may have any numbers.
		{[]api.Blob{blob(-1, -5, -4, 8, 3, -2), blob(-1, -3, 9, -7, -9, -1), blob(low, 0, 0), blob(far, 0, 0)}, []api.Blob{blob(low, 0, 0), blob(-1, -5, 9, -7, 3, -1), blob(far, 0, 0)}},
		{[]api.Blob{blob(0, far, far), blob(0, low, low)}, []api.Blob{blob(0, low, low), blob(0, far, far)}},
		{[]api.Blob{blob(0, far, far), blob(0, far-1, far-1)}, []api.Blob{blob(0, far-1, far)}},
		{[]api.Blob{blob(0, far, far), blob(0, far-2, far-2)}, []api.Blob{blob(0, far-2, far-2), blob(0, far, far)}},
		{[]api.Blob{blob(0, low, low), blob(0, low+1, low+1)}, []api.Blob{blob(0, low, low+1)}},
		{[]api.Blob{blob(0, low, low), blob(0, low+2, low+2)}, []api.Blob{blob(0, low, low), blob(0, low+2, low+2)}},
		{[]api.Blob{blob(0, 5, far), blob(0, low, 4)}, []api.Blob{blob(0, low, far)}},
		{[]api.Blob{blob(0, low, far), blob(0, 3, 4), blob(0, far, far), blob(0, low, low)}, []api.Blob{blob(0, low, far)}},
		{[]api.Blob{blob(0, far, low), blob(0, 0, -1)}, nil},
	} {
		if got := track.Join(x.l); !slices.Equal(got, x.want) {
			t.Error(i, got)
		}
	}
}

// P5.1
func TestJoinPlain(t *testing.T) {
	d := &dice{11}
	for i := range 20000 {
		var l []api.Blob
		wide := d.pick(20, 40, 200)
		for range d.roll(0, 12) {
			lo := d.roll(-wide, wide)
			l = append(l, blob(int(d.roll(0, 2)), lo, lo+d.roll(-2, 6), d.roll(0, 9), d.roll(0, 9), d.pick(0, d.roll(-1, 9), d.roll(1, 9))))
		}
		if got, want := track.Join(l), join(l); !slices.Equal(got, want) {
			t.Fatal(i, l, got, want)
		}
	}
}
