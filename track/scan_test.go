package track_test

import (
	"slices"
	"testing"

	"kerbstone/api"
	"kerbstone/track"
)

// points makes points of triples: X, Y and V.
func points(l ...int64) []api.Point {
	var p []api.Point
	for i := 0; i+2 < len(l); i += 3 {
		p = append(p, api.Point{X: l[i], Y: l[i+1], V: l[i+2]})
	}
	return p
}

// hit makes something found.
func hit(lane int, lo, hi, vlo, vhi int64) api.Found {
	return api.Found{Lane: lane, Lo: lo, Hi: hi, VLo: vlo, VHi: vhi}
}

// P5.3
func TestFoundExamples(t *testing.T) {
	for i, x := range []struct {
		points []api.Point
		want   []api.Found
	}{
		{nil, nil}, {points(20000, 0, 10), []api.Found{hit(0, 19900, 20100, 5, 15)}},
		{points(20000, 0, 10, 20400, 50, 12), []api.Found{hit(0, 19900, 20500, 5, 17)}},
		{points(20400, 50, 12, 20000, 0, 10), []api.Found{hit(0, 19900, 20500, 5, 17)}},
		// At most 500 between two of them.
		{points(20000, 0, 10, 20700, 0, 12), []api.Found{hit(0, 19900, 20800, 5, 17)}},
		{points(20000, 0, 10, 20701, 0, 12), []api.Found{hit(0, 19900, 20100, 5, 15), hit(0, 20601, 20801, 7, 17)}},
		{points(20701, 0, 12, 20000, 0, 10), []api.Found{hit(0, 19900, 20100, 5, 15), hit(0, 20601, 20801, 7, 17)}},
		{points(20000, 0, 10, 21400, 0, 900, 20700, 0, 12), []api.Found{hit(0, 19900, 21500, 5, 905)}},
		{points(20000, 0, 10, 20000, 0, 300, 20001, 0, 4), []api.Found{hit(0, 19900, 20101, 0, 305)}},
		// A foot stands for offsets of the lane alone, at most 100 away.
		{points(0, 0, 10), []api.Found{hit(0, 0, 100, 5, 15)}}, {points(-100, 0, 10), []api.Found{hit(0, 0, 100, 5, 15)}}, {points(-101, 0, 10), nil},
		{points(99, 0, 10), []api.Found{hit(0, 0, 199, 5, 15)}}, {points(101, 0, 10), []api.Found{hit(0, 1, 201, 5, 15)}},
		{points(100000, 0, 10), []api.Found{hit(0, 99900, 100000, 5, 15)}}, {points(100100, 0, 10), []api.Found{hit(0, 99900, 100000, 5, 15)}}, {points(100101, 0, 10), nil}, {points(99899, 0, 10), []api.Found{hit(0, 99799, 99999, 5, 15)}},
		{points(20000, 100, 10), []api.Found{hit(0, 19900, 20100, 5, 15)}}, {points(20000, -100, 10), []api.Found{hit(0, 19900, 20100, 5, 15)}}, {points(20000, 101, 10), nil}, {points(20000, -101, 10), nil},
		// It may have a foot on several lanes.
		{points(50000, 0, 10), []api.Found{hit(0, 49900, 50100, 5, 15), hit(1, 49900, 50100, 5, 15)}},
		{points(50000, 100, 10, 50100, 0, 90), []api.Found{hit(0, 49900, 50200, 5, 95), hit(1, 49900, 50200, 5, 95)}},
		{points(50000, 101, 10, 50101, 0, 90), []api.Found{hit(0, 50001, 50201, 85, 95), hit(1, 50001, 50201, 5, 15)}},
		// The speeds, and which points count.
		{points(20000, 0, 5), []api.Found{hit(0, 19900, 20100, 0, 10)}}, {points(20000, 0, 4), []api.Found{hit(0, 19900, 20100, 0, 9)}}, {points(20000, 0, 6), []api.Found{hit(0, 19900, 20100, 1, 11)}},
		{points(20000, 0, 0), []api.Found{hit(0, 19900, 20100, 0, 5)}}, {points(20000, 0, -5), []api.Found{hit(0, 19900, 20100, 0, 0)}}, {points(20000, 0, -6), nil}, {points(20000, 0, low), nil},
		{points(20000, 0, 2005), []api.Found{hit(0, 19900, 20100, 2000, 2010)}}, {points(20000, 0, 2006), nil}, {points(20000, 0, far), nil},
		{points(20000, 0, -6, 20000, 0, 7), []api.Found{hit(0, 19900, 20100, 2, 12)}},
		// Points may have any numbers.
		{points(far, 0, 5, low, 0, 5, 0, far, 5, 0, low, 5, far, low, 5), nil},
		{points(api.MaxSpot+1, 0, 5), nil},
	} {
		if got := track.Found(cross(), x.points); !slices.Equal(got, x.want) {
			t.Error(i, got)
		}
		if got := track.Found(api.Map{}, x.points); got != nil {
			t.Error(i, got)
		}
	}
}

// P5.3: only the first 1000 points count, also those that have no speed.
func TestFoundOfManyPoints(t *testing.T) {
	many := slices.Repeat(points(20000, 0, 10), 999)
	for i, x := range []struct {
		points []api.Point
		want   int
	}{
		{append(slices.Clone(many), points(30000, 0, 10)...), 2},
		{append(slices.Clone(many), points(20000, 0, 10, 30000, 0, 10)...), 1},
		{append(slices.Clone(many), points(30000, 0, 10, 40000, 0, 10)...), 2},
		{append(points(20000, 0, -6), append(slices.Clone(many), points(30000, 0, 10)...)...), 1},
	} {
		if got := track.Found(cross(), x.points); len(got) != x.want {
			t.Error(i, got)
		}
		k := know(0, api.Ego{}, blob(0, 0, 100000, 0, 2000))
		x.points[999].X += 500000
		if track.Explained(cross(), k, x.points) || !track.Explained(cross(), k, append(slices.Clone(many), points(30000, 0, 9, -9, far, 0)...)) {
			t.Error(i)
		}
	}
}

// P5.3
func TestFreeExamples(t *testing.T) {
	for i, x := range []struct {
		seen  []api.Span
		found []api.Found
		want  []api.Span
	}{
		{nil, nil, nil}, {nil, []api.Found{hit(0, 5, 9, 0, 0)}, nil},
		{[]api.Span{span(0, 0, 30000)}, nil, []api.Span{span(0, 0, 30000)}},
		{[]api.Span{span(0, 0, 30000)}, []api.Found{hit(0, 19900, 20500, 5, 17)}, []api.Span{span(0, 0, 19899), span(0, 20501, 30000)}},
		{[]api.Span{span(0, 0, 30000)}, []api.Found{hit(1, 19900, 20500, 5, 17)}, []api.Span{span(0, 0, 30000)}},
		{[]api.Span{span(0, 0, 30000)}, []api.Found{hit(0, 0, 20500, 0, 0), hit(0, 20600, 40000, 0, 0)}, []api.Span{span(0, 20501, 20599)}},
		{[]api.Span{span(0, 0, 30000)}, []api.Found{hit(0, 20600, 40000, 0, 0), hit(0, 0, 20599, 0, 0)}, nil},
		{[]api.Span{span(0, 0, 30000)}, []api.Found{hit(0, 100, 300, 0, 0), hit(0, 200, 250, 0, 0), hit(0, 150, 400, 0, 0)}, []api.Span{span(0, 0, 99), span(0, 401, 30000)}},
		{[]api.Span{span(0, 500, 500)}, []api.Found{hit(0, 100, 499, 0, 0), hit(0, 501, 600, 0, 0)}, []api.Span{span(0, 500, 500)}},
		{[]api.Span{span(0, 500, 500)}, []api.Found{hit(0, 500, 500, 0, 0)}, nil},
		// The spans are the greatest ones.
		{[]api.Span{span(0, 0, 9), span(0, 10, 19)}, nil, []api.Span{span(0, 0, 19)}}, {[]api.Span{span(0, 0, 9), span(0, 11, 19)}, nil, []api.Span{span(0, 0, 9), span(0, 11, 19)}},
		{[]api.Span{span(1, 5, 9), span(0, 20, 30), span(0, 5, 25), span(0, 10, 12)}, nil, []api.Span{span(0, 5, 30), span(1, 5, 9)}},
		{[]api.Span{span(0, 99999, 100000), span(1, 0, 0)}, []api.Found{hit(0, 100000, 100000, 0, 0)}, []api.Span{span(0, 99999, 99999), span(1, 0, 0)}},
		// What is not on a lane is left out.
		{[]api.Span{span(0, -1, 30000), span(0, 5, 4), span(0, 0, 100001), span(2, 0, 5), span(-1, 0, 5), span(far, 0, 5), span(low, 0, 5), span(0, low, far), span(0, far, low), span(0, 7, 8)}, nil, []api.Span{span(0, 7, 8)}},
		{[]api.Span{span(0, 0, 30000)}, []api.Found{hit(0, -1, 30000, 0, 0), hit(0, 5, 4, 0, 0), hit(0, 0, 100001, 0, 0), hit(2, 0, 5, 0, 0), hit(-1, 0, 5, 0, 0), hit(0, low, far, 0, 0), hit(0, far, low, 0, 0)}, []api.Span{span(0, 0, 30000)}},
		{[]api.Span{span(0, 0, 30000)}, []api.Found{hit(0, 7, 8, far, low)}, []api.Span{span(0, 0, 6), span(0, 9, 30000)}},
		{[]api.Span{span(0, 0, 100000)}, []api.Found{hit(0, 0, 100000, 0, 0)}, nil},
	} {
		if got := track.Free(cross(), x.seen, x.found); !slices.Equal(got, x.want) {
			t.Error(i, got)
		}
		if got := track.Free(api.Map{}, x.seen, x.found); got != nil {
			t.Error(i, got)
		}
	}
}

// P5.4
func TestUpdateExamples(t *testing.T) {
	all := track.All(cross(), 3, ego(10000, 10010, 0, 5)).Blobs
	other := all[1]
	for i, x := range []struct {
		l      []api.Blob
		seen   []api.Span
		points []api.Point
		want   []api.Blob
	}{
		{all, nil, nil, all}, {all, nil, points(20000, 0, 10), all}, {nil, []api.Span{span(0, 0, 30000)}, points(20000, 0, 10), nil},
		{all, []api.Span{span(0, 0, 30000)}, points(20000, 0, 10, 20400, 50, 12), []api.Blob{blob(0, 19900, 20500, 5, 17), blob(0, 30001, 100000, 0, 2000), other}},
		{all, []api.Span{span(0, 0, 100000)}, nil, []api.Blob{other}},
		{all, []api.Span{span(0, 1, 99999)}, nil, []api.Blob{blob(0, 0, 0, 0, 2000), blob(0, 100000, 100000, 0, 2000), other}},
		// What was not seen as a whole keeps its speeds.
		{all, []api.Span{span(0, 0, 20400)}, points(20400, 50, 12), []api.Blob{blob(0, 20300, 100000, 0, 2000), other}},
		{all, []api.Span{span(0, 0, 20500)}, points(20400, 50, 12), []api.Blob{blob(0, 20300, 100000, 0, 2000), other}},
		{all, []api.Span{span(0, 0, 20501)}, points(20400, 50, 12), []api.Blob{blob(0, 20300, 20500, 7, 17), blob(0, 20502, 100000, 0, 2000), other}},
		{all, []api.Span{span(0, 20400, 30000)}, points(20400, 50, 12), []api.Blob{blob(0, 0, 20500, 0, 2000), blob(0, 30001, 100000, 0, 2000), other}},
		{[]api.Blob{blob(0, 20350, 20450, 0, 2000, 5)}, []api.Span{span(0, 20350, 20450)}, points(20400, 50, 12), []api.Blob{blob(0, 20350, 20450, 7, 17, 5)}},
		{[]api.Blob{blob(0, 20350, 20450, 0, 2000, 5)}, []api.Span{span(0, 20350, 20449)}, points(20400, 50, 12), []api.Blob{blob(0, 20350, 20450, 0, 2000, 5)}},
		{[]api.Blob{blob(0, 20350, 20450, 0, 2000, 5)}, []api.Span{span(0, 20351, 20450)}, points(20400, 50, 12), []api.Blob{blob(0, 20350, 20450, 0, 2000, 5)}},
		// Spans that overlap or are adjacent are one.
		{[]api.Blob{blob(0, 20350, 20450, 0, 2000)}, []api.Span{span(0, 20400, 20500), span(0, 20300, 20399)}, points(20400, 50, 12), []api.Blob{blob(0, 20350, 20450, 7, 17)}},
		{[]api.Blob{blob(0, 20350, 20450, 0, 2000)}, []api.Span{span(0, 20400, 20500), span(0, 20300, 20398)}, points(20400, 50, 12), []api.Blob{blob(0, 20350, 20450, 0, 2000)}},
		{[]api.Blob{blob(0, 20350, 20450, 0, 2000)}, []api.Span{span(0, 20400, 20500), span(0, 20300, 100001), span(0, -1, 20450), span(2, 0, 5)}, points(20400, 50, 12), []api.Blob{blob(0, 20350, 20450, 0, 2000)}},
		// The speeds become less, not more.
		{[]api.Blob{blob(0, 20350, 20450, 10, 11)}, []api.Span{span(0, 0, 30000)}, points(20400, 50, 12), []api.Blob{blob(0, 20350, 20450, 10, 11)}},
		{[]api.Blob{blob(0, 20350, 20450, 10, 30)}, []api.Span{span(0, 0, 30000)}, points(20400, 50, 12), []api.Blob{blob(0, 20350, 20450, 10, 17)}},
		{[]api.Blob{blob(0, 20350, 20450, 1, 11)}, []api.Span{span(0, 0, 30000)}, points(20400, 50, 12), []api.Blob{blob(0, 20350, 20450, 7, 11)}},
		{[]api.Blob{blob(0, 20350, 20450, 17, 30)}, []api.Span{span(0, 0, 30000)}, points(20400, 50, 12), []api.Blob{blob(0, 20350, 20450, 17, 17)}},
		{[]api.Blob{blob(0, 20350, 20450, 18, 30)}, []api.Span{span(0, 0, 30000)}, points(20400, 50, 12), nil},
		{[]api.Blob{blob(0, 20350, 20450, 0, 7)}, []api.Span{span(0, 0, 30000)}, points(20400, 50, 12), []api.Blob{blob(0, 20350, 20450, 7, 7)}},
		{[]api.Blob{blob(0, 20350, 20450, 0, 6), blob(0, 40000, 40000)}, []api.Span{span(0, 0, 30000)}, points(20400, 50, 12), []api.Blob{blob(0, 40000, 40000)}},
		// Only who was found at the blob counts.
		{[]api.Blob{blob(0, 20350, 25000, 0, 2000)}, []api.Span{span(0, 0, 30000)}, points(20400, 50, 12, 24000, 0, 300), []api.Blob{blob(0, 20350, 20500, 7, 17), blob(0, 23900, 24100, 295, 305)}},
		{[]api.Blob{blob(0, 20350, 20500, 0, 2000), blob(0, 20600, 20700, 0, 2000)}, []api.Span{span(0, 0, 30000)}, points(20400, 50, 12, 20601, 0, 300), []api.Blob{blob(0, 20350, 20500, 7, 305), blob(0, 20600, 20700, 7, 305)}},
		// Both lanes where they cross.
		{all, []api.Span{span(0, 49000, 51000), span(1, 49000, 51000)}, points(50000, 0, 12), []api.Blob{blob(0, 0, 48999, 0, 2000), blob(0, 49900, 50100, 7, 17), blob(0, 51001, 100000, 0, 2000), blob(1, 0, 48999, 0, 2000), blob(1, 49900, 50100, 7, 17), blob(1, 51001, 100000, 0, 2000)}},
	} {
		k := know(3, ego(10000, 10010, 0, 5), x.l...)
		scan := api.Scan{Stamp: 3, Seen: x.seen, Points: x.points}
		if got := track.Update(cross(), k, scan); !same(got, know(3, k.Ego, x.want...)) {
			t.Error(i, got.Blobs)
		}
		// Of another tick, or for another map, it says nothing.
		for _, stamp := range []int64{2, 4, 0, -3, far, low} {
			scan.Stamp = stamp
			if got := track.Update(cross(), k, scan); !same(got, k) {
				t.Error(i, stamp, got.Blobs)
			}
		}
		scan.Stamp = 3
		if got := track.Update(api.Map{}, k, scan); !same(got, k) {
			t.Error(i, got.Blobs)
		}
		k.Ego.VHi = 2001
		if got := track.Update(cross(), k, scan); !same(got, k) {
			t.Error(i, got.Blobs)
		}
	}
}

// P5.4
func TestExplainedExamples(t *testing.T) {
	for i, x := range []struct {
		l      []api.Blob
		points []api.Point
		want   bool
	}{
		{nil, nil, true}, {nil, points(20000, 0, -6, 20000, 0, 2006), true}, {nil, points(20000, 0, 2005), false},
		{[]api.Blob{blob(0, 0, 100000)}, points(20000, 0, 10), true}, {[]api.Blob{blob(1, 0, 100000)}, points(20000, 0, 10), false}, {[]api.Blob{blob(1, 0, 100000)}, points(50000, 0, 10), true},
		{[]api.Blob{blob(0, 0, 100000)}, points(20000, 100, 10), true}, {[]api.Blob{blob(0, 0, 100000)}, points(20000, 101, 10), false},
		{[]api.Blob{blob(0, 0, 100000)}, points(20000, 0, 10, 20000, 101, 10), false}, {[]api.Blob{blob(0, 0, 100000)}, points(20000, 101, 10, 20000, 0, 10), false},
		{[]api.Blob{blob(0, 20100, 20200)}, points(20000, 0, 10), true}, {[]api.Blob{blob(0, 20101, 20200)}, points(20000, 0, 10), false}, {[]api.Blob{blob(0, 15000, 19900)}, points(20000, 0, 10), true}, {[]api.Blob{blob(0, 15000, 19899)}, points(20000, 0, 10), false},
		{[]api.Blob{blob(0, 15000, 19899), blob(0, 20101, 20200)}, points(20000, 0, 10), false}, {[]api.Blob{blob(0, 15000, 19899), blob(0, 20101, 20200)}, points(20000, 0, 10, 20001, 0, 10), false}, {[]api.Blob{blob(0, 15000, 19899), blob(0, 20101, 20200)}, points(19999, 0, 10, 20001, 0, 10), true},
		// The speeds do not matter, nor whether what is known is valid.
		{[]api.Blob{blob(0, 0, 100000, 5, 5)}, points(20000, 0, 1000), true}, {[]api.Blob{blob(0, 0, 100000, 9, -9, -9)}, points(20000, 0, 10), true},
		{[]api.Blob{blob(0, low, far)}, points(0, 0, 10), true}, {[]api.Blob{blob(0, far, low)}, points(0, 0, 10), false}, {[]api.Blob{blob(0, 20010, 20000)}, points(20000, 0, 10), false}, {[]api.Blob{blob(9, 0, 5), blob(0, 30000, 30000), blob(-1, 0, 9), blob(0, 20000, 20000), blob(0, 20000, 20002)}, points(20000, 0, 10, 30000, 0, 10), true},
		{[]api.Blob{blob(0, low, -1)}, points(0, 0, 10), false}, {[]api.Blob{blob(0, low, 0)}, points(-100, 0, 10), true}, {[]api.Blob{blob(0, 100001, far)}, points(100000, 0, 10), false}, {[]api.Blob{blob(0, 100000, far)}, points(100000, 0, 10), true},
	} {
		if got := track.Explained(cross(), know(-7, ego(9, 8, 7, 6), x.l...), x.points); got != x.want {
			t.Error(i, got)
		}
		if track.Explained(api.Map{}, know(0, api.Ego{}, x.l...), x.points) {
			t.Error(i, "explained without a map")
		}
	}
}

// P5.3, P5.4
func TestScansPlain(t *testing.T) {
	d := &dice{41}
	narrowed, removed, unexplained := 0, 0, 0
	for i, r := range rides(t, 42, 4000) {
		x := d.scan(r)
		hits := track.Found(r.m, x.Points)
		if !slices.Equal(hits, found(r.m, x.Points)) {
			t.Fatal(i, hits)
		}
		if got, want := track.Free(r.m, x.Seen, hits), free(r.m, x.Seen, hits); !slices.Equal(got, want) {
			t.Fatal(i, got, want)
		}
		got, want := track.Update(r.m, r.k, x), updated(r.m, r.k, x)
		if !same(got, want) {
			t.Fatal(i, r, x, "\n", got, "\n", want)
		}
		if track.Explained(r.m, r.k, x.Points) != explained(r.m, r.k, x.Points) {
			t.Fatal(i, r, x)
		}
		if !explained(r.m, r.k, x.Points) {
			unexplained++
		}
		removed += len(r.k.Blobs) - len(got.Blobs)
		for _, b := range got.Blobs {
			if slices.ContainsFunc(r.k.Blobs, func(o api.Blob) bool {
				return o.Lane == b.Lane && o.Lo <= b.Lo && b.Hi <= o.Hi && (b.VLo > o.VLo || b.VHi < o.VHi)
			}) {
				narrowed++
			}
		}
	}
	if min(narrowed, removed, unexplained, 4000-unexplained) < 200 {
		t.Error("too few cases to show anything:", narrowed, removed, unexplained)
	}
}

// P5.3: any spans, and anything found.
func TestFreePlain(t *testing.T) {
	d := &dice{43}
	m := fork()
	for i := range 3000 {
		var seen []api.Span
		var hits []api.Found
		for range d.roll(0, 9) {
			from := d.roll(-9, 400)
			seen = append(seen, span(int(d.roll(0, 2)), d.pick(from, 0), from+d.roll(-1, 90)))
			from = d.roll(-9, 400)
			hits = append(hits, hit(int(d.roll(-1, 9)/4), d.pick(from, 0), from+d.roll(-1, 30), d.roll(-9, 9), d.roll(-9, 9)))
		}
		if got, want := track.Free(m, seen, hits), free(m, seen, hits); !slices.Equal(got, want) {
			t.Fatal(i, seen, hits, got, want)
		}
	}
}
