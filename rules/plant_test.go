package rules_test

import (
	"slices"
	"testing"

	"kerbstone/api"
	"kerbstone/rules"
)

// P6.5
func TestCheckPlant(t *testing.T) {
	const most, change = 1 << 40, 1 << 20
	good := api.Choice{}
	for i, x := range []struct {
		p    []api.Choice
		want api.Errno
	}{
		{nil, api.ErrShort}, {[]api.Choice{}, api.ErrShort}, {plantP(), api.OK}, {plantQ(), api.OK}, {[]api.Choice{good}, api.OK}, {slices.Repeat([]api.Choice{good}, 12), api.OK}, {slices.Repeat([]api.Choice{good}, 13), api.ErrFull}, {slices.Repeat([]api.Choice{{Owner: -1}}, 13), api.ErrFull},
		{[]api.Choice{{Owner: 3}}, api.OK}, {[]api.Choice{{Owner: 4}}, api.ErrRange}, {[]api.Choice{{Owner: -1}}, api.ErrRange}, {[]api.Choice{{Owner: far}}, api.ErrRange}, {[]api.Choice{{Owner: low}}, api.ErrRange},
		{[]api.Choice{{Lo: -change, Hi: -change}}, api.OK}, {[]api.Choice{{Lo: change, Hi: change}}, api.OK}, {[]api.Choice{{Lo: -change - 1, Hi: -change - 1}}, api.ErrRange}, {[]api.Choice{{Lo: -change - 1, Hi: -change}}, api.ErrRange}, {[]api.Choice{{Lo: change, Hi: change + 1}}, api.ErrRange}, {[]api.Choice{{Lo: change + 1, Hi: change + 1}}, api.ErrRange},
		{[]api.Choice{{Lo: 5, Hi: 4}}, api.ErrRange}, {[]api.Choice{{Lo: low, Hi: far}}, api.ErrRange}, {[]api.Choice{{Lo: far, Hi: low}}, api.ErrRange}, {[]api.Choice{{Lo: far, Hi: far}}, api.ErrRange}, {[]api.Choice{{Lo: low, Hi: low}}, api.ErrRange},
		{[]api.Choice{{Min: -most, Max: most}}, api.OK}, {[]api.Choice{{Min: most, Max: most}}, api.OK}, {[]api.Choice{{Min: -most, Max: -most}}, api.OK}, {[]api.Choice{{Min: -most - 1, Max: 0}}, api.ErrRange}, {[]api.Choice{{Min: 0, Max: most + 1}}, api.ErrRange}, {[]api.Choice{{Min: 1, Max: 0}}, api.ErrRange},
		{[]api.Choice{{Min: low, Max: far}}, api.ErrRange}, {[]api.Choice{{Min: far, Max: low}}, api.ErrRange}, {[]api.Choice{{Min: most + 1, Max: most + 1}}, api.ErrRange}, {[]api.Choice{{Min: -most - 1, Max: -most - 1}}, api.ErrRange},
		// At most nine choices.
		{[]api.Choice{{Lo: 0, Hi: 8}}, api.OK}, {[]api.Choice{{Lo: 0, Hi: 9}}, api.ErrFull}, {[]api.Choice{{Lo: -4, Hi: 4}}, api.OK}, {[]api.Choice{{Lo: -1, Hi: 1}, {Lo: -1, Hi: 1}}, api.OK}, {[]api.Choice{{Lo: 0, Hi: 1}, {Lo: 0, Hi: 4}}, api.ErrFull}, {[]api.Choice{{Lo: 0, Hi: 4}, {Lo: 0, Hi: 1}}, api.ErrFull},
		{[]api.Choice{{Hi: 1}, {Hi: 1}, {Hi: 1}}, api.OK}, {[]api.Choice{{Hi: 1}, {Hi: 1}, {Hi: 1}, {Hi: 1}}, api.ErrFull}, {slices.Repeat([]api.Choice{{Lo: -change, Hi: change}}, 12), api.ErrFull}, {slices.Repeat([]api.Choice{{Hi: 1<<16 - 1}}, 8), api.ErrFull}, {[]api.Choice{{Hi: 8}, {}, {Lo: 7, Hi: 7}}, api.OK},
		// The ranges of all choices come before their number.
		{[]api.Choice{{Hi: 9}, {Owner: 4}}, api.ErrRange}, {[]api.Choice{{Hi: 9}, {Lo: 1}}, api.ErrRange}, {[]api.Choice{{Owner: 4}, {Hi: 9}}, api.ErrRange}, {[]api.Choice{good, {Min: 1}}, api.ErrRange},
	} {
		if e := rules.CheckPlant(x.p); e != x.want {
			t.Error(i, e, x.want)
		}
	}
}

// P6.5
func TestFollowsExamples(t *testing.T) {
	const most = 1 << 40
	for i, x := range []struct {
		p    []api.Choice
		row  []int64
		want [][]int64
	}{
		{plantP(), []int64{0}, trace(0, 0, 1)}, {plantQ(), []int64{9, 9}, slices.Repeat(table(2, 9, 9), 6)}, {plantP(), []int64{5}, trace(4, 5, 6)}, {plantP(), []int64{9}, trace(8, 9, 9)},
		// The last column changes first.
		{plantQ(), []int64{3, 5}, table(2, 3, 5, 3, 6, 3, 7, 4, 5, 4, 6, 4, 7)}, {[]api.Choice{choice(0, -1, 0), choice(0, 2, 3), choice(3, 0, 1)}, []int64{5, 5, 5}, table(3, 4, 7, 5, 4, 7, 6, 4, 8, 5, 4, 8, 6, 5, 7, 5, 5, 7, 6, 5, 8, 5, 5, 8, 6)},
		// Values may be outside of the bounds before.
		{plantP(), []int64{100}, trace(9, 9, 9)}, {plantP(), []int64{-100}, trace(0, 0, 0)}, {plantP(), []int64{10}, trace(9, 9, 9)}, {plantP(), []int64{-1}, trace(0, 0, 0)},
		{[]api.Choice{{Lo: 1 << 20, Hi: 1 << 20, Min: -most, Max: most}}, []int64{most}, trace(most)}, {[]api.Choice{{Lo: -1 << 20, Hi: -1 << 20, Min: -most, Max: most}}, []int64{-most}, trace(-most)}, {[]api.Choice{{Lo: 1 << 20, Hi: 1 << 20, Min: -most, Max: most}}, []int64{-most}, trace(1<<20 - most)},
		{[]api.Choice{{Min: 7, Max: 7}}, []int64{-most}, trace(7)},
	} {
		if rows, e := rules.Follows(x.p, x.row); e != api.OK || !equal(rows, x.want) {
			t.Error(i, rows, e)
		}
	}
}

// P6.5, R1
func TestFollowsErrors(t *testing.T) {
	for i, x := range []struct {
		p    []api.Choice
		row  []int64
		want api.Errno
	}{
		{nil, nil, api.ErrShort}, {slices.Repeat(plantP(), 13), nil, api.ErrFull}, {slices.Repeat(plantP(), 3), nil, api.ErrFull}, {[]api.Choice{{Owner: 4}}, nil, api.ErrRange}, {plantP(), nil, api.ErrForm}, {plantP(), []int64{1, 2}, api.ErrForm}, {plantQ(), []int64{1}, api.ErrForm},
		{plantP(), []int64{1<<40 + 1}, api.ErrRange}, {plantP(), []int64{low}, api.ErrRange}, {plantQ(), []int64{0, far}, api.ErrRange},
	} {
		if rows, e := rules.Follows(x.p, x.row); e != x.want || rows != nil {
			t.Error(i, rows, e)
		}
	}
}

// P6.5
func TestFollowsPlain(t *testing.T) {
	d := &dice{51}
	for i := range 5000 {
		p := d.plant(int(d.roll(1, 4)))
		row := d.row(len(p))
		rows, e := rules.Follows(p, row)
		if want := plainFollows(p, row); e != api.OK || !equal(rows, want) {
			t.Fatal(i, p, row, rows, e)
		}
	}
}
