package track_test

import (
	"slices"
	"testing"

	"kerbstone/api"
	"kerbstone/track"
)

// P5.2
func TestOwnExamples(t *testing.T) {
	all := func(m api.Map, e api.Ego) api.Know { return track.All(m, 0, e) }
	second := blob(1, 0, 100000, 0, 2000)
	two := func(lo, hi int64) []api.Blob {
		return []api.Blob{blob(0, 0, lo, 0, 2000), blob(0, hi, 100000, 0, 2000), second}
	}
	one := func(lo, hi int64) []api.Blob { return []api.Blob{blob(0, lo, hi, 0, 2000), second} }
	for i, x := range []struct {
		k    api.Know
		size int64
		want []api.Blob
	}{
		{all(cross(), ego(10000, 10010, 0, 0)), 4000, two(6009, 10001)},
		{all(cross(), ego(10000, 10000, 0, 0)), 300, two(9699, 10001)},
		{all(cross(), ego(10000, 13999, 0, 0)), 4000, two(9998, 10001)},
		{all(cross(), ego(10000, 14000, 0, 0)), 4000, two(9999, 10001)},
		{all(cross(), ego(10000, 14001, 0, 0)), 4000, one(0, 100000)},
		{all(cross(), ego(0, 0, 0, 0)), 4000, one(1, 100000)},
		{all(cross(), ego(3000, 4000, 0, 0)), 4000, one(3001, 100000)},
		{all(cross(), ego(3000, 4001, 0, 0)), 4000, two(0, 3001)},
		{all(cross(), ego(99999, 100000, 0, 0)), 4000, two(95999, 100000)},
		{all(cross(), ego(100000, 100000, 0, 0)), 4000, one(0, 95999)},
		{all(cross(), ego(104000, 104000, 0, 0)), 4000, one(0, 99999)},
		{all(cross(), ego(104000, 104001, 0, 0)), 4000, one(0, 100000)},
		{all(cross(), ego(0, api.MaxTick, 0, 0)), 4000, one(0, 100000)},
		{all(cross(), ego(api.MaxTick, api.MaxTick, 0, 0)), 4000, one(0, 100000)},
		// What is left of a blob has its speeds and its Hold.
		{know(9, ego(10000, 10000, 5, 6), blob(0, 5999, 6001, 3, 7, 8), blob(1, 0, 9)), 4000, []api.Blob{blob(0, 5999, 5999, 3, 7, 8), blob(1, 0, 9)}},
		{know(9, ego(10000, 10000, 5, 6), blob(0, 9000, 10003, 3, 7, 11000), blob(1, 9000, 10003)), 4000, []api.Blob{blob(0, 10001, 10003, 3, 7, 11000), blob(1, 9000, 10003)}},
		{know(9, ego(10000, 10000, 5, 6), blob(0, 6000, 8000), blob(0, 8002, 10000), blob(0, 10002, 10003)), 4000, []api.Blob{blob(0, 10002, 10003)}},
		{know(9, ego(10000, 10000, 5, 6), blob(0, 5998, 5999), blob(0, 10001, 10001)), 4000, []api.Blob{blob(0, 5998, 5999), blob(0, 10001, 10001)}},
		{know(9, ego(10000, 10000, 5, 6)), 4000, nil},
	} {
		if k := track.Own(cross(), []int{0}, x.size, x.k); !same(k, know(x.k.Tick, x.k.Ego, x.want...)) {
			t.Error(i, k)
		}
	}
}

// P5.2: the joints of lanes are on both of them.
func TestOwnAtJoints(t *testing.T) {
	rest := track.All(fork(), 0, api.Ego{}).Blobs[5:]
	for i, x := range []struct {
		e    api.Ego
		want []api.Blob
	}{
		{ego(3500, 3500, 0, 0), []api.Blob{blob(0, 0, 2499, 0, 2000), blob(1, 0, 5000, 0, 2000), blob(2, 501, 1000, 0, 2000), blob(3, 0, 1000, 0, 2000), blob(4, 0, 3000, 0, 2000)}},
		{ego(3000, 3000, 0, 0), []api.Blob{blob(0, 0, 1999, 0, 2000), blob(1, 0, 5000, 0, 2000), blob(2, 1, 1000, 0, 2000), blob(3, 0, 1000, 0, 2000), blob(4, 0, 3000, 0, 2000)}},
		{ego(2999, 2999, 0, 0), []api.Blob{blob(0, 0, 1998, 0, 2000), blob(0, 3000, 3000, 0, 2000), blob(1, 0, 5000, 0, 2000), blob(2, 0, 1000, 0, 2000), blob(3, 0, 1000, 0, 2000), blob(4, 0, 3000, 0, 2000)}},
		{ego(4000, 4000, 0, 0), []api.Blob{blob(0, 0, 2999, 0, 2000), blob(1, 0, 5000, 0, 2000), blob(3, 1, 1000, 0, 2000), blob(4, 0, 3000, 0, 2000)}},
		{ego(4001, 4001, 0, 0), []api.Blob{blob(0, 0, 3000, 0, 2000), blob(1, 0, 5000, 0, 2000), blob(2, 0, 0, 0, 2000), blob(3, 2, 1000, 0, 2000), blob(4, 0, 3000, 0, 2000)}},
	} {
		k := track.Own(fork(), []int{0, 2, 3}, 1000, track.All(fork(), 0, x.e))
		if !same(k, know(0, x.e, append(x.want, rest...)...)) {
			t.Error(i, k)
		}
	}
}

// P5.2: without a gap what is known stays as it is.
func TestOwnOfNothing(t *testing.T) {
	for i, x := range []struct {
		m     api.Map
		route []int
		size  int64
		k     api.Know
	}{
		{api.Map{}, []int{0}, 4000, know(3, ego(10000, 10000, 0, 0), blob(0, 0, 50000))},
		{cross(), nil, 4000, track.All(cross(), 0, ego(10000, 10000, 0, 0))}, {cross(), []int{2}, 4000, track.All(cross(), 0, ego(10000, 10000, 0, 0))}, {cross(), []int{0, 1}, 4000, track.All(cross(), 0, ego(10000, 10000, 0, 0))},
		{cross(), []int{0}, 299, track.All(cross(), 0, ego(10000, 10000, 0, 0))}, {cross(), []int{0}, 20001, track.All(cross(), 0, ego(10000, 10000, 0, 0))}, {cross(), []int{0}, low, track.All(cross(), 0, ego(10000, 10000, 0, 0))}, {cross(), []int{0}, far, track.All(cross(), 0, ego(10000, 10000, 0, 0))},
		{cross(), []int{0}, 4000, track.All(cross(), -1, ego(10000, 10000, 0, 0))}, {cross(), []int{0}, 4000, track.All(cross(), 0, ego(10000, 9999, 0, 0))}, {cross(), []int{0}, 4000, track.All(cross(), 0, ego(10000, 10000, 0, 2001))},
		{cross(), []int{0}, 4000, know(3, ego(10000, 10000, 0, 0), blob(0, 0, 50000), blob(0, 40000, 60000))}, {cross(), []int{0}, 4000, know(3, ego(10000, 10000, 0, 0), blob(0, 0, 100001))},
		{cross(), []int{0}, 4000, know(3, ego(10000, 10000, 0, 0), blob(0, 0, 50000), blob(2, 0, 0))}, {fork(), []int{2}, 4000, know(3, ego(500, 500, 0, 0), blob(2, 0, 1000))},
	} {
		if k := track.Own(x.m, x.route, x.size, x.k); !same(k, x.k) {
			t.Error(i, k)
		}
	}
	for _, size := range []int64{300, 20000} {
		if k := track.Own(cross(), []int{0}, size, track.All(cross(), 0, ego(50000, 50000, 0, 0))); len(k.Blobs) != 3 || k.Blobs[0].Hi != 49999-size {
			t.Error(size, k)
		}
	}
}

// P5.2, the vehicle of a step.
func TestStepOfVehicle(t *testing.T) {
	for i, x := range []struct {
		e    api.Ego
		act  int64
		want api.Ego
	}{
		{ego(10000, 10010, 0, 0), 0, ego(10000, 10010, 0, 0)},
		{ego(10000, 10010, 100, 200), 20, ego(10120, 10230, 120, 220)},
		{ego(10000, 10010, 100, 200), 30, ego(10130, 10240, 130, 230)},
		{ego(10000, 10010, 100, 200), 31, ego(10130, 10240, 130, 230)},
		{ego(10000, 10010, 100, 200), far, ego(10130, 10240, 130, 230)},
		{ego(10000, 10010, 100, 200), -90, ego(10010, 10120, 10, 110)},
		{ego(10000, 10010, 100, 200), -91, ego(10010, 10120, 10, 110)},
		{ego(10000, 10010, 100, 200), low, ego(10010, 10120, 10, 110)},
		{ego(10000, 10010, 80, 100), -90, ego(10000, 10020, 0, 10)},
		{ego(10000, 10010, 1900, 1980), 30, ego(11930, 12010, 1930, 2000)},
		{ego(api.MaxTick-2000, api.MaxTick-2000, 2000, 2000), 30, ego(api.MaxTick, api.MaxTick, 2000, 2000)},
	} {
		k, _, e := track.Step(cross(), []int{0}, 4000, know(5, x.e), x.act, false)
		if e != api.OK || k.Tick != 6 || k.Ego != x.want {
			t.Error(i, e, k)
		}
	}
	// On other lanes there are other bounds.
	for i, x := range []struct {
		route []int
		act   int64
		want  api.Ego
	}{
		{[]int{6, 7}, 50, ego(1120, 1220, 120, 220)}, {[]int{6, 7}, -90, ego(1040, 1140, 40, 140)},
		{[]int{8}, 400, ego(1200, 1300, 200, 300)}, {[]int{8}, -400, ego(1000, 1000, 0, 0)}, {[]int{8}, -150, ego(1000, 1050, 0, 50)}, {[]int{0, 2}, 400, ego(1130, 1230, 130, 230)},
	} {
		k, _, e := track.Step(fork(), x.route, 300, know(5, ego(1000, 1000, 100, 200)), x.act, false)
		if e != api.OK || k.Ego != x.want {
			t.Error(i, e, k)
		}
	}
	if k, _, e := track.Step(fork(), []int{8}, 300, know(5, ego(1000, 1000, 100, 2000)), 0, false); e != api.OK || k.Ego != ego(1100, 1300, 100, 300) {
		t.Error(e, k)
	}
}

// P5.2
func TestStepErrors(t *testing.T) {
	at := ego(10000, 10010, 0, 0)
	for i, x := range []struct {
		m     api.Map
		route []int
		size  int64
		k     api.Know
		act   int64
		want  api.Errno
	}{
		{cross(), []int{0}, 4000, know(0, at), 0, api.OK}, {cross(), []int{0}, 300, know(0, at), 0, api.OK}, {cross(), []int{0}, 20000, know(0, at), 0, api.OK},
		{api.Map{}, []int{0}, 4000, know(0, at), 0, api.ErrShort}, {api.Map{}, nil, 0, know(-1, at), 0, api.ErrShort},
		{cross(), []int{0}, 4000, know(-1, at), 0, api.ErrRange}, {cross(), nil, 4000, know(-1, at), 0, api.ErrRange}, {cross(), nil, 4000, know(0, at, blob(2, 0, 0)), 0, api.ErrMissing}, {cross(), nil, 0, know(0, at, blob(1, 0, 0), blob(0, 0, 0)), 0, api.ErrOrder},
		{cross(), nil, 4000, know(0, at), 0, api.ErrRoute}, {cross(), []int{2}, 4000, know(0, at), 0, api.ErrRoute}, {cross(), []int{0, 1}, 0, know(api.MaxTick, at), 0, api.ErrRoute}, {fork(), []int{2, 3}, 4000, know(0, at), 0, api.ErrRoute},
		{cross(), []int{0}, 299, know(0, at), 0, api.ErrRange}, {cross(), []int{0}, 20001, know(0, at), 0, api.ErrRange}, {cross(), []int{0}, low, know(0, at), 0, api.ErrRange}, {cross(), []int{0}, far, know(0, at), 0, api.ErrRange},
		{cross(), []int{0}, 4000, know(api.MaxTick, at), 0, api.ErrRange}, {cross(), []int{0}, 4000, know(api.MaxTick-1, at), 0, api.OK},
		{cross(), []int{0}, 4000, know(0, ego(0, api.MaxTick, 0, 0)), 0, api.OK}, {cross(), []int{0}, 4000, know(0, ego(0, api.MaxTick, 0, 0)), 1, api.ErrRange},
		{cross(), []int{0}, 4000, know(0, ego(0, api.MaxTick-20, 0, 0)), 20, api.OK}, {cross(), []int{0}, 4000, know(0, ego(0, api.MaxTick-20, 0, 0)), 21, api.ErrRange}, {cross(), []int{0}, 4000, know(0, ego(0, api.MaxTick, 0, 90)), -90, api.OK}, {cross(), []int{0}, 4000, know(0, ego(0, api.MaxTick, 0, 91)), -90, api.ErrRange},
	} {
		k, sweeps, e := track.Step(x.m, x.route, x.size, x.k, x.act, true)
		if e != x.want || e != api.OK && (!same(k, api.Know{}) || len(sweeps) > 0) {
			t.Error(i, e, k, sweeps)
		}
	}
}

// alone makes the step of the vehicle at 90000 on the lane 0 of a map, with an
// act of 0, and what is known of the lane 1, which it returns.
func alone(t *testing.T, m api.Map, tick int64, signals bool, l ...api.Blob) ([]api.Blob, []api.Sweep) {
	t.Helper()
	k, sweeps, e := track.Step(m, []int{0}, 4000, know(tick, ego(90000, 90000, 0, 0), l...), 0, signals)
	if e != api.OK || k.Tick != tick+1 || len(k.Blobs) == 0 || k.Blobs[0] != blob(0, 0, 0, 0, 2000) {
		t.Fatal(e, k)
	}
	return k.Blobs[1:], sweeps
}

// P5.2: a blob moves.
func TestStepOfBlobs(t *testing.T) {
	enter := blob(1, 0, 0, 0, 2000)
	for i, x := range []struct {
		b      api.Blob
		want   []api.Blob
		sweeps []api.Sweep
	}{
		{blob(1, 100, 200, 50, 100), []api.Blob{enter, blob(1, 100, 330, 0, 130)}, []api.Sweep{sweep(1, 100, 330, false)}},
		{blob(1, 100, 200, 90, 100, 77), []api.Blob{enter, blob(1, 100, 330, 0, 130)}, []api.Sweep{sweep(1, 100, 330, false)}},
		{blob(1, 100, 200, 91, 100), []api.Blob{enter, blob(1, 101, 330, 1, 130)}, []api.Sweep{sweep(1, 100, 330, false)}},
		{blob(1, 100, 200, 1990, 1990), []api.Blob{enter, blob(1, 2000, 2200, 1900, 2000)}, []api.Sweep{sweep(1, 100, 2200, false)}},
		// It reaches the one that comes in: both become one.
		{blob(1, 1, 5, 50, 100), []api.Blob{blob(1, 0, 135, 0, 2000)}, []api.Sweep{sweep(1, 1, 135, false)}},
		{blob(1, 2, 5, 50, 100), []api.Blob{enter, blob(1, 2, 135, 0, 130)}, []api.Sweep{sweep(1, 2, 135, false)}},
		// Somebody may still be coming in.
		{blob(1, 0, 5, 100, 100), []api.Blob{blob(1, 0, 135, 0, 2000)}, []api.Sweep{sweep(1, 0, 135, false)}},
		{blob(1, 1, 5, 100, 100), []api.Blob{enter, blob(1, 11, 135, 10, 130)}, []api.Sweep{sweep(1, 1, 135, false)}},
		// Where the lane ends they leave.
		{blob(1, 99000, 99800, 200, 200), []api.Blob{enter, blob(1, 99110, 100000, 110, 230)}, []api.Sweep{sweep(1, 99000, 100000, false)}},
		{blob(1, 99890, 99900, 200, 200), []api.Blob{enter, blob(1, 100000, 100000, 110, 230)}, []api.Sweep{sweep(1, 99890, 100000, false)}},
		{blob(1, 99891, 99900, 200, 200), []api.Blob{enter}, []api.Sweep{sweep(1, 99891, 100000, false)}},
	} {
		l, sweeps := alone(t, cross(), 5, true, x.b)
		if !slices.Equal(l, x.want) || !slices.Equal(sweeps, x.sweeps) {
			t.Error(i, l, sweeps)
		}
	}
}

// P5.2: a blob stops before a red line, if all of it can.
func TestStepAtRedLines(t *testing.T) {
	// The lane 1 is red at 48000 at the tick 5; from 200, 130 are needed to stop
	// (110 and 20).
	for i, x := range []struct {
		tick    int64
		signals bool
		b       api.Blob
		want    api.Blob
	}{
		{5, true, blob(1, 47000, 47869, 200, 200), blob(1, 47110, 47999, 110, 230, 48000)},
		{5, true, blob(1, 47000, 47870, 200, 200), blob(1, 47110, 48100, 110, 230)},
		{5, false, blob(1, 47000, 47869, 200, 200), blob(1, 47110, 48099, 110, 230)},
		{14, true, blob(1, 47000, 47869, 200, 200), blob(1, 47110, 47999, 110, 230, 48000)},
		{15, true, blob(1, 47000, 47869, 200, 200), blob(1, 47110, 48099, 110, 230)},
		{5, true, blob(1, 30000, 30500, 200, 200), blob(1, 30110, 30730, 110, 230, 48000)},
		// Those of whom it is known that they stop before a line, stop before this one, too.
		{5, true, blob(1, 47000, 47999, 200, 200, 48000), blob(1, 47110, 47999, 110, 230, 48000)},
		{5, true, blob(1, 47000, 47999, 200, 200, 47000), blob(1, 47110, 47999, 110, 230, 48000)},
		{5, true, blob(1, 47000, 47999, 200, 200, 1), blob(1, 47110, 47999, 110, 230, 48000)},
		{5, true, blob(1, 47000, 47999, 200, 200, 48001), blob(1, 47110, 48229, 110, 230)},
		{5, true, blob(1, 47000, 48000, 200, 200, 48000), blob(1, 47110, 48230, 110, 230)},
		{5, true, blob(1, 48000, 48000, 0, 0, 48000), blob(1, 48000, 48030, 0, 30)},
		{5, true, blob(1, 47000, 47999, 0, 0), blob(1, 47000, 47999, 0, 30, 48000)},
		{5, true, blob(1, 47000, 48000, 0, 0), blob(1, 47000, 48030, 0, 30)},
		{5, true, blob(1, 50000, 60000, 0, 0), blob(1, 50000, 60030, 0, 30)},
		{15, true, blob(1, 47000, 47999, 200, 200, 48000), blob(1, 47110, 48229, 110, 230)},
		{5, false, blob(1, 47000, 47999, 200, 200, 48000), blob(1, 47110, 48229, 110, 230)},
		{5, true, blob(1, 47000, 47900, 1090, 1090, 48000), blob(1, 48000, 47999)},
		{5, true, blob(1, 46999, 47900, 1090, 1090, 48000), blob(1, 47999, 47999, 1000, 1120, 48000)},
	} {
		l, sweeps := alone(t, lights(), x.tick, x.signals, x.b)
		want := track.Join([]api.Blob{blob(1, 0, 0, 0, 2000), x.want})
		passed := []api.Sweep{sweep(1, x.b.Lo, x.want.Hi, false)}
		if x.want.Lo > x.want.Hi {
			// There is nobody who could pass anything.
			passed = nil
		}
		if !slices.Equal(l, want) || !slices.Equal(sweeps, passed) {
			t.Error(i, l, sweeps)
		}
	}
}

// P5.2: of several red lines the first one before which all can stop counts.
func TestStepAtSeveralRedLines(t *testing.T) {
	m := lights()
	m.Zones = append(m.Zones, zone(1, part(0, 1, 2, 0), part(1, 47900, 52000, 0)), zone(1, part(0, 3, 4, 0), part(1, 60000, 62000, 0)))
	for i, x := range []struct{ b, want api.Blob }{
		{blob(1, 47000, 47769, 200, 200), blob(1, 47110, 47899, 110, 230, 47900)},
		{blob(1, 47000, 47770, 200, 200), blob(1, 47110, 47999, 110, 230, 48000)},
		{blob(1, 47000, 47870, 200, 200), blob(1, 47110, 48100, 110, 230, 60000)},
		{blob(1, 47000, 47899, 200, 200, 47900), blob(1, 47110, 47899, 110, 230, 47900)},
		{blob(1, 47000, 47900, 200, 200, 47900), blob(1, 47110, 47999, 110, 230, 48000)},
		{blob(1, 47000, 47899, 200, 200, 48000), blob(1, 47110, 47999, 110, 230, 48000)},
		{blob(1, 47000, 48000, 200, 200, 48000), blob(1, 47110, 48230, 110, 230, 60000)},
		{blob(1, 47000, 60000, 200, 200, 48000), blob(1, 47110, 60230, 110, 230)},
	} {
		l, _ := alone(t, m, 5, true, x.b)
		if !slices.Equal(l, []api.Blob{blob(1, 0, 0, 0, 2000), x.want}) {
			t.Error(i, l)
		}
	}
}

// P5.2: a line may be directly behind where others come in.
func TestStepAtTheFirstRedLine(t *testing.T) {
	for line, want := range map[int64]int64{0: 30, 1: 0, 2: 1, 30: 29, 31: 30, 32: 30} {
		m := lights()
		m.Zones[0].Parts[1].From = line
		l, sweeps := alone(t, m, 5, true, blob(1, 0, 0, 0, 0))
		// Those who come in need not stop.
		if !slices.Equal(l, []api.Blob{blob(1, 0, want, 0, 2000)}) || !slices.Equal(sweeps, []api.Sweep{sweep(1, 0, want, false)}) {
			t.Error(line, l, sweeps)
		}
	}
}

// P5.2, P5.7: the vehicle's own gap, and what is behind it.
func TestStepBehindTheVehicle(t *testing.T) {
	second := blob(1, 0, 100000, 0, 2000)
	whole := sweep(1, 0, 100000, false)
	for i, x := range []struct {
		e      api.Ego
		act    int64
		l      []api.Blob
		want   []api.Blob
		sweeps []api.Sweep
	}{
		{ego(10000, 10010, 0, 0), 0, []api.Blob{blob(0, 0, 100000, 0, 2000)}, []api.Blob{blob(0, 0, 6009, 0, 2000), blob(0, 10001, 100000, 0, 2000)}, []api.Sweep{sweep(0, 0, 6009, true), sweep(0, 10001, 100000, false)}},
		// What is behind stays behind, and what is ahead may go on.
		{ego(10000, 10000, 100, 100), 20, []api.Blob{blob(0, 2000, 9000, 0, 300), blob(0, 10001, 11000, 0, 100)}, []api.Blob{blob(0, 0, 0, 0, 2000), blob(0, 2000, 6119, 0, 330), blob(0, 10121, 11130, 0, 130)}, []api.Sweep{sweep(0, 2000, 6119, true), sweep(0, 10001, 11130, false)}},
		// What reaches the gap, but is not in it, is behind.
		{ego(10000, 10000, 0, 0), 0, []api.Blob{blob(0, 5999, 5999, 0, 300)}, []api.Blob{blob(0, 0, 0, 0, 2000), blob(0, 5999, 5999, 0, 330)}, []api.Sweep{sweep(0, 5999, 5999, true)}},
		// Without a gap nothing is behind.
		{ego(10000, 14001, 0, 0), 0, []api.Blob{blob(0, 5999, 5999, 0, 300)}, []api.Blob{blob(0, 0, 0, 0, 2000), blob(0, 5999, 6329, 0, 330)}, []api.Sweep{sweep(0, 5999, 6329, false)}},
		{ego(10000, 14000, 0, 0), 0, []api.Blob{blob(0, 5999, 5999, 0, 300)}, []api.Blob{blob(0, 0, 0, 0, 2000), blob(0, 5999, 6329, 0, 330)}, []api.Sweep{sweep(0, 5999, 6329, true)}},
		// It is if there was one before the step, not only after it; and is not cut if there is none after it.
		{ego(10000, 14000, 0, 10), 0, []api.Blob{blob(0, 9990, 10010, 300, 300)}, []api.Blob{blob(0, 0, 0, 0, 2000), blob(0, 10211, 10340, 210, 330)}, []api.Sweep{sweep(0, 9990, 10009, true), sweep(0, 10001, 10340, false)}},
		{ego(10000, 14001, 80, 90), -90, []api.Blob{blob(0, 9990, 9999, 0, 300)}, []api.Blob{blob(0, 0, 0, 0, 2000), blob(0, 9990, 10329, 0, 330)}, []api.Sweep{sweep(0, 9990, 10329, false)}},
		// Nobody can come in where the vehicle is.
		{ego(3970, 3970, 0, 0), 29, nil, nil, nil},
		{ego(3970, 3970, 0, 0), 30, nil, nil, nil},
		{ego(3971, 3971, 0, 0), 30, nil, []api.Blob{blob(0, 0, 0, 0, 2000)}, nil},
		{ego(3000, 3971, 0, 0), 30, nil, []api.Blob{blob(0, 0, 0, 0, 2000)}, nil},
		{ego(0, 3970, 0, 0), 0, []api.Blob{blob(0, 9, 9, 0, 0)}, []api.Blob{blob(0, 9, 39, 0, 30)}, []api.Sweep{sweep(0, 9, 39, false)}},
	} {
		k := know(0, x.e, append(slices.Clone(x.l), second)...)
		to, sweeps, e := track.Step(cross(), []int{0}, 4000, k, x.act, true)
		if e != api.OK || !slices.Equal(to.Blobs, append(slices.Clone(x.want), second)) || !slices.Equal(sweeps, append(slices.Clone(x.sweeps), whole)) {
			t.Error(i, e, to, sweeps)
		}
	}
}

// P5.2: a blob is laid out on all lanes that come after its own.
func TestStepOntoOtherLanes(t *testing.T) {
	in := []api.Blob{blob(0, 0, 0, 0, 2000), blob(1, 0, 0, 0, 2000), blob(6, 0, 0, 0, 1000), blob(8, 0, 0, 0, 300)}
	for i, x := range []struct {
		route  []int
		e      api.Ego
		b      api.Blob
		want   []api.Blob
		sweeps []api.Sweep
	}{
		// The vehicle is elsewhere: from 0 on to 2 and 4, and beyond 2 to 3 and 5.
		{[]int{8}, ego(500, 500, 0, 0), blob(0, 2500, 2900, 1900, 2000), []api.Blob{blob(3, 310, 900, 1810, 2000), blob(4, 1310, 1900, 1810, 2000)}, []api.Sweep{sweep(0, 2500, 3000, false), sweep(2, 0, 1000, false), sweep(3, 0, 900, false), sweep(4, 0, 1900, false)}},
		{[]int{8}, ego(500, 500, 0, 0), blob(0, 2999, 3000, 1960, 2000, 9), []api.Blob{blob(3, 869, 1000, 1870, 2000), blob(4, 1869, 2000, 1870, 2000), blob(5, 0, 0, 1870, 2000)}, []api.Sweep{sweep(0, 2999, 3000, false), sweep(2, 0, 1000, false), sweep(3, 0, 1000, false), sweep(4, 0, 2000, false), sweep(5, 0, 0, false)}},
		{[]int{8}, ego(500, 500, 0, 0), blob(0, 2900, 2949, 10, 20), []api.Blob{blob(0, 2900, 2999, 0, 50)}, []api.Sweep{sweep(0, 2900, 2999, false)}},
		{[]int{8}, ego(500, 500, 0, 0), blob(0, 2900, 2950, 10, 20), []api.Blob{blob(0, 2900, 3000, 0, 50), blob(2, 0, 0, 0, 50), blob(4, 0, 0, 0, 50)}, []api.Sweep{sweep(0, 2900, 3000, false), sweep(2, 0, 0, false), sweep(4, 0, 0, false)}},
		// Behind the vehicle, from lane to lane of its route, but not on others.
		{[]int{0, 2, 3, 5}, ego(4500, 4500, 0, 0), blob(0, 2500, 2900, 1900, 2000), []api.Blob{blob(4, 1310, 1900, 1810, 2000)}, []api.Sweep{sweep(0, 2500, 3000, true), sweep(2, 0, 1000, true), sweep(3, 0, 199, true), sweep(4, 0, 1900, false)}},
		{[]int{0, 2, 3, 5}, ego(3800, 3800, 0, 0), blob(0, 2500, 2900, 1900, 2000), []api.Blob{blob(4, 1310, 1900, 1810, 2000)}, []api.Sweep{sweep(0, 2500, 3000, true), sweep(2, 0, 499, true), sweep(4, 0, 1900, false)}},
		{[]int{0, 2, 3, 5}, ego(3200, 3200, 0, 0), blob(0, 2500, 2800, 1900, 2000), []api.Blob{blob(4, 1310, 1800, 1810, 2000)}, []api.Sweep{sweep(0, 2500, 2899, true), sweep(4, 0, 1800, false)}},
		{[]int{0, 2}, ego(4500, 4500, 0, 0), blob(0, 2500, 2900, 1900, 2000), []api.Blob{blob(3, 310, 900, 1810, 2000), blob(4, 1310, 1900, 1810, 2000)}, []api.Sweep{sweep(0, 2500, 3000, true), sweep(2, 0, 1000, true), sweep(3, 0, 900, false), sweep(4, 0, 1900, false)}},
		// Ahead of it nothing holds them.
		{[]int{0, 2, 3, 5}, ego(500, 500, 0, 0), blob(0, 2500, 2900, 1900, 2000), []api.Blob{blob(3, 310, 900, 1810, 2000), blob(4, 1310, 1900, 1810, 2000)}, []api.Sweep{sweep(0, 2500, 3000, false), sweep(2, 0, 1000, false), sweep(3, 0, 900, false), sweep(4, 0, 1900, false)}},
		// Who comes from the side is behind, if the vehicle is on the lane already.
		{[]int{0, 2, 3, 5}, ego(3500, 3500, 0, 0), blob(1, 4500, 4900, 500, 500), []api.Blob{blob(1, 4910, 5000, 410, 530), blob(2, 0, 199, 410, 530)}, []api.Sweep{sweep(1, 4500, 5000, false), sweep(2, 0, 199, true)}},
		{[]int{0, 2, 3, 5}, ego(3000, 3000, 0, 0), blob(1, 4500, 4900, 500, 500), []api.Blob{blob(1, 4910, 5000, 410, 530)}, []api.Sweep{sweep(1, 4500, 5000, false)}},
		{[]int{0, 2, 3, 5}, ego(2999, 2999, 0, 0), blob(1, 4500, 4900, 500, 500), []api.Blob{blob(1, 4910, 5000, 410, 530), blob(2, 0, 430, 410, 530)}, []api.Sweep{sweep(1, 4500, 5000, false), sweep(2, 0, 430, false)}},
		{[]int{0, 2, 3, 5}, ego(2999, 3500, 0, 0), blob(1, 4500, 4900, 500, 500), []api.Blob{blob(1, 4910, 5000, 410, 530), blob(2, 0, 430, 410, 530)}, []api.Sweep{sweep(1, 4500, 5000, false), sweep(2, 0, 430, false)}},
		// And then from lane to lane.
		{[]int{0, 2, 3, 5}, ego(4500, 4500, 0, 0), blob(1, 4500, 4900, 1400, 1400), []api.Blob{blob(2, 810, 1000, 1310, 1430), blob(3, 0, 199, 1310, 1430)}, []api.Sweep{sweep(1, 4500, 5000, false), sweep(2, 0, 1000, true), sweep(3, 0, 199, true)}},
		// From the route to a later lane of it, but not along it.
		{[]int{0, 4}, ego(5500, 5500, 0, 0), blob(0, 2800, 2900, 900, 900), []api.Blob{blob(2, 610, 830, 810, 930), blob(4, 610, 830, 810, 930)}, []api.Sweep{sweep(0, 2800, 3000, true), sweep(2, 0, 830, false), sweep(4, 0, 830, true)}},
	} {
		to, sweeps, e := track.Step(fork(), x.route, 300, know(0, x.e, x.b), 0, true)
		if e != api.OK || !slices.Equal(to.Blobs, track.Own(fork(), x.route, 300, know(0, x.e, track.Join(append(slices.Clone(in), x.want...))...)).Blobs) || !slices.Equal(sweeps, x.sweeps) {
			t.Error(i, e, to.Blobs, sweeps)
		}
	}
}

// P5.2: what is on the route, but does not follow there, has the barrier as a
// cap only if the vehicle is there.
func TestStepPastALane(t *testing.T) {
	in := blob(0, 0, 0, 0, 2000)
	for i, x := range []struct {
		route []int
		e     api.Ego
		want  []api.Blob
		next  []api.Sweep
	}{
		// Behind the vehicle on the lane 0, but not on 2, where it has not been.
		{[]int{0, 1, 2}, ego(6000, 6000, 0, 0), []api.Blob{in, blob(0, 4610, 5000, 410, 530), blob(1, 0, 430, 410, 530), blob(2, 0, 430, 410, 530)}, []api.Sweep{sweep(0, 4200, 5000, true), sweep(1, 0, 430, true), sweep(2, 0, 430, false)}},
		{[]int{0, 1, 2}, ego(5500, 5500, 0, 0), []api.Blob{in, blob(0, 4610, 5000, 410, 530), blob(1, 0, 199, 410, 530), blob(2, 0, 430, 410, 530)}, []api.Sweep{sweep(0, 4200, 5000, true), sweep(1, 0, 199, true), sweep(2, 0, 430, false)}},
		{[]int{0, 1, 2}, ego(16999, 17100, 0, 0), []api.Blob{in, blob(0, 4610, 5000, 410, 530), blob(1, 0, 430, 410, 530), blob(2, 0, 430, 410, 530)}, []api.Sweep{sweep(0, 4200, 5000, true), sweep(1, 0, 430, true), sweep(2, 0, 430, false)}},
		{[]int{0, 1, 2}, ego(17000, 17100, 0, 0), []api.Blob{in, blob(0, 4610, 5000, 410, 530), blob(1, 0, 430, 410, 530)}, []api.Sweep{sweep(0, 4200, 5000, true), sweep(1, 0, 430, true)}},
		{[]int{0, 1, 2}, ego(17500, 17500, 0, 0), []api.Blob{in, blob(0, 4610, 5000, 410, 530), blob(1, 0, 430, 410, 530), blob(2, 0, 199, 410, 530)}, []api.Sweep{sweep(0, 4200, 5000, true), sweep(1, 0, 430, true), sweep(2, 0, 199, true)}},
		{[]int{0, 2}, ego(5500, 5500, 0, 0), []api.Blob{in, blob(0, 4610, 5000, 410, 530), blob(1, 0, 430, 410, 530), blob(2, 0, 199, 410, 530)}, []api.Sweep{sweep(0, 4200, 5000, true), sweep(1, 0, 430, false), sweep(2, 0, 199, true)}},
		{[]int{0, 1}, ego(5500, 5500, 0, 0), []api.Blob{in, blob(0, 4610, 5000, 410, 530), blob(1, 0, 199, 410, 530), blob(2, 0, 430, 410, 530)}, []api.Sweep{sweep(0, 4200, 5000, true), sweep(1, 0, 199, true), sweep(2, 0, 430, false)}},
	} {
		to, sweeps, e := track.Step(loop(), x.route, 300, know(0, x.e, blob(0, 4200, 4900, 500, 500)), 0, true)
		if e != api.OK || !slices.Equal(to.Blobs, x.want) || !slices.Equal(sweeps, x.next) {
			t.Error(i, e, to.Blobs, sweeps)
		}
	}
}

// P5.2: sweeps are sorted, each once.
func TestSweepsAreSorted(t *testing.T) {
	for i, r := range rides(t, 31, 2000) {
		_, sweeps, e := r.step()
		if e == api.OK && !slices.IsSortedFunc(sweeps, func(a, b api.Sweep) int {
			if a == b {
				t.Error(i, "twice", a)
			}
			return slices.Compare(numbers(a), numbers(b))
		}) {
			t.Error(i, sweeps)
		}
	}
}

// numbers returns the numbers of a sweep, by which they are sorted.
func numbers(s api.Sweep) []int64 {
	behind := map[bool]int64{true: 1}
	return []int64{int64(s.Lane), s.From, s.To, behind[s.Behind]}
}

// P5.2
func TestOwnPlain(t *testing.T) {
	cuts := 0
	for i, r := range rides(t, 32, 4000) {
		got, want := track.Own(r.m, r.route, r.size, r.k), know(r.k.Tick, r.k.Ego, own(r.m, r.route, r.size, r.k)...)
		if !same(got, want) {
			t.Fatal(i, r, got, want)
		}
		if !same(got, r.k) {
			cuts++
		}
	}
	if cuts < 1000 {
		t.Error("too few gaps to show anything:", cuts)
	}
}

// P5.2
func TestStepPlain(t *testing.T) {
	held, behind, beyond := 0, 0, 0
	for i, r := range rides(t, 33, 6000) {
		got, sweeps, e := r.step()
		want, others := stepped(r)
		if e != api.OK || !same(got, want) {
			t.Fatal(i, e, r, "\n", got, "\n", want)
		}
		if !slices.Equal(sweeps, others) {
			t.Fatal(i, r, "\n", sweeps, "\n", others)
		}
		for _, b := range got.Blobs {
			if b.Hold > 0 {
				held++
			}
		}
		for _, s := range sweeps {
			if s.Behind {
				behind++
			}
			if s.From == 0 && len(before(r.m, s.Lane)) > 0 {
				beyond++
			}
		}
	}
	if min(held, behind, beyond) < 300 {
		t.Error("too few cases to show anything:", held, behind, beyond)
	}
}
