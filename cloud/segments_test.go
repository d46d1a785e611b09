package cloud_test

import (
	"math"
	"slices"
	"testing"

	"kerbstone/api"
	"kerbstone/cloud"
)

// flood returns the segments: each one spreads from its first point to all
// that are linked.
func flood(l []api.Point, gap int64) [][]int {
	var segments [][]int
	taken := make([]bool, len(l))
	for first := range l {
		if taken[first] {
			continue
		}
		taken[first] = true
		segment := []int{first}
		for n := 0; n < len(segment); n++ {
			for j, q := range l {
				if !taken[j] && square(place(l[segment[n]]), place(q)) <= gap*gap {
					taken[j] = true
					segment = append(segment, j)
				}
			}
		}
		slices.Sort(segment)
		segments = append(segments, segment)
	}
	return segments
}

// P2.3
func TestSegmentsExamples(t *testing.T) {
	for i, x := range []struct {
		l    []api.Point
		gap  int64
		want [][]int
	}{
		{nil, 500, nil}, {of(1, 2, 3), 0, [][]int{{0}}},
		{example(), 500, [][]int{{0, 1, 4}, {2, 3}}}, {example(), 499, [][]int{{0}, {1, 4}, {2, 3}}}, {example(), 2000, [][]int{{0, 1, 2, 3, 4}}},
		{example(), 100, [][]int{{0}, {1, 4}, {2, 3}}}, {example(), 99, [][]int{{0}, {1, 4}, {2}, {3}}}, {example(), 0, [][]int{{0}, {1, 4}, {2}, {3}}},
		// Chains: the ends are linked only by what is between them, in any order.
		{of(0, 0, 0, 20, 0, 0, 10, 0, 0), 10, [][]int{{0, 1, 2}}}, {of(0, 0, 0, 40, 0, 0, 10, 0, 0, 30, 0, 0, 20, 0, 0), 10, [][]int{{0, 1, 2, 3, 4}}},
		{of(0, 0, 0, 40, 0, 0, 10, 0, 0, 30, 0, 0, 21, 0, 0), 10, [][]int{{0, 2}, {1, 3, 4}}}, {of(90, 0, 0, 0, 0, 0, 95, 0, 0, 5, 0, 0), 5, [][]int{{0, 2}, {1, 3}}},
		{of(-far, -far, 0, far, far, 0), 2 * far, [][]int{{0}, {1}}}, {of(-far, 5, 0, far, 5, 0), 2 * far, [][]int{{0, 1}}}, {of(-far, 5, 0, far, 5, 0), 2*far - 1, [][]int{{0}, {1}}},
	} {
		if s, e := cloud.Segments(x.l, x.gap); e != api.OK || !listsEqual(s, x.want) {
			t.Error(i, s, e)
		}
	}
	for _, gap := range []int64{math.MinInt64, -2000, -1, 2*far + 1, math.MaxInt64} {
		for _, l := range [][]api.Point{nil, example()} {
			if s, e := cloud.Segments(l, gap); e != api.ErrRange || len(s) > 0 {
				t.Error(gap, s, e)
			}
		}
	}
}

// P2.3
func TestSegmentsSamples(t *testing.T) {
	d := &dice{41}
	for i, l := range samples(42) {
		for _, gap := range append(d.lengths(l, 2*far), spread(l)/8, spread(l)/4, spread(l)/3) {
			if s, e := cloud.Segments(l, gap); e != api.OK || !listsEqual(s, flood(l, gap)) {
				t.Error(i, gap, s, e)
			}
		}
	}
}

// P2.3: a long chain, the points of which come in every order.
func TestSegmentsOfFullClouds(t *testing.T) {
	d := &dice{43}
	chain := row(most)
	for i, l := range [][]api.Point{chain, d.shuffled(chain), d.shuffled(chain), d.cloud(most, 20000)} {
		for _, gap := range []int64{0, 600, 9999, 10000} {
			if s, e := cloud.Segments(l, gap); e != api.OK || !listsEqual(s, flood(l, gap)) {
				t.Error(i, gap, len(s), e)
			}
		}
	}
	slices.Reverse(chain)
	if s, e := cloud.Segments(chain, 10000); e != api.OK || len(s) != 1 || len(s[0]) != most {
		t.Error(len(s), e)
	}
}
