package roads_test

import (
	"slices"
	"testing"

	"kerbstone/api"
	"kerbstone/roads"
)

// P3.2
func TestLanesExamples(t *testing.T) {
	m := fork()
	for i, want := range []int64{20000, 15000, 30000, 40000, 15000, 40000} {
		if n := roads.Length(m, i); n != want {
			t.Error(i, n)
		}
	}
	for i, want := range [][]int{nil, nil, {0, 1}, {2}, {2}, nil} {
		if l := roads.Before(m, i); !slices.Equal(l, want) {
			t.Error(i, l)
		}
	}
	if l := roads.Sources(m); !slices.Equal(l, []int{0, 1, 5}) {
		t.Error(l)
	}
	for i, want := range [][]int{{2, 3, 4}, {2, 3, 4}, {3, 4}, nil, nil, nil} {
		for k := range m.Lanes {
			if roads.Leads(m, i, k) != slices.Contains(want, k) {
				t.Error(i, k)
			}
		}
	}
	for i, want := range [][]int{{0, 1}, {3, 5}, {2, 5}} {
		if l := roads.Entries(m, i); !slices.Equal(l, want) {
			t.Error(i, l)
		}
	}
	m.Zones = append(m.Zones, zone(0, part(1, 0, 1, 0), part(3, 0, 1, 0), part(5, 0, 1, 0)), zone(0, part(3, 0, 1, 0), part(4, 0, 1, 0)))
	if a, b := roads.Entries(m, 3), roads.Entries(m, 4); !slices.Equal(a, []int{1, 5}) || !slices.Equal(b, []int{3, 4}) {
		t.Error(a, b)
	}
	if l := roads.Sources(cross()); !slices.Equal(l, []int{0, 1}) {
		t.Error(l)
	}
	if n := roads.Length(full(), 4); n != 120000 {
		t.Error(n)
	}
}

// P3.2
func TestLanesPlain(t *testing.T) {
	beyond, inner := 0, 0
	for i, m := range towns(31, 1000) {
		var sources []int
		for a := range m.Lanes {
			if n := roads.Length(m, a); n != length(m, a) {
				t.Error(i, a, n)
			}
			if l := roads.Before(m, a); !slices.Equal(l, before(m, a)) {
				t.Error(i, a, l)
			}
			if len(before(m, a)) == 0 {
				sources = append(sources, a)
			}
			for b := range m.Lanes {
				want := leads(m, a, b)
				if roads.Leads(m, a, b) != want {
					t.Error(i, a, b)
				}
				if want && !slices.Contains(m.Lanes[a].Next, b) {
					beyond++
				}
			}
		}
		if l := roads.Sources(m); !slices.Equal(l, sources) {
			t.Error(i, l)
		}
		for n, z := range m.Zones {
			var entries []int
			for a := range m.Lanes {
				if entry(m, z, a) {
					entries = append(entries, a)
				}
			}
			if l := roads.Entries(m, n); !slices.Equal(l, entries) {
				t.Error(i, n, l)
			}
			if len(entries) < len(z.Parts) {
				inner++
			}
		}
	}
	if beyond < 300 || inner < 300 {
		t.Error("too few lanes lead to others to show anything:", beyond, inner)
	}
}

// P3.4
func TestLimitExamples(t *testing.T) {
	m := lights()
	m.Works = append(m.Works, work(0, 10, 30, 7, 12, 200), work(0, 30, 40, 0, 100, 1700), work(0, 50, 50, 3, 4, 0))
	for i, x := range []struct {
		lane         int
		offset, tick int64
		want         int64
	}{
		{0, 10, 5, 300}, {0, 10, 8, 200}, {0, 10, 9, 200}, {0, 10, 4, 1500}, {0, 0, 5, 300}, {0, 0, 8, 300}, {0, 0, 9, 1500}, {0, 20, 5, 300}, {0, 21, 5, 1500},
		{0, 9, 7, 300}, {0, 9, 10, 1500}, {0, 10, 10, 200}, {0, 30, 11, 200}, {0, 30, 12, 1500}, {0, 31, 11, 1500}, {0, 40, 11, 1500}, {0, 10, 6, 300}, {0, 10, 7, 200},
		{0, 50, 3, 0}, {0, 49, 3, 1500}, {0, 51, 3, 1500}, {0, 50, 2, 1500}, {0, 50, 4, 1500},
		{0, 100000, 5, 1500}, {0, 100001, 5, 0}, {0, -1, 5, 0}, {0, far, 5, 0}, {0, low, 5, 0}, {0, 0, far, 1500}, {0, 0, -1, 1500}, {0, 0, low, 1500},
		{1, 100, 5, 1500}, {1, 10, 5, 1500}, {2, 10, 5, 0}, {-1, 10, 5, 0},
	} {
		if n := roads.Limit(m, x.lane, x.offset, x.tick); n != x.want {
			t.Error(i, n)
		}
	}
	if a, b := roads.Limit(lights(), 0, 10, 5), roads.Limit(lights(), 0, 10, 9); a != 300 || b != 1500 {
		t.Error(a, b)
	}
	for i, x := range []struct {
		lane         int
		offset, tick int64
		want         int64
	}{{8, 100000, api.MaxTick - 1, 300}, {0, 100000, api.MaxTick - 1, 2000}, {2, 0, 0, 1000}, {7, 70, 7, 7}, {7, 140, 70, 7}, {7, 140, 71, 1500}, {7, 141, 70, 1500}, {3, 0, 0, 1}, {5, 50, 5, 5}, {5, 49, 5, 1500}, {5, 101, 50, 1500}, {5, 100, 50, 5}, {5, 100, 51, 1500}} {
		if n := roads.Limit(full(), x.lane, x.offset, x.tick); n != x.want {
			t.Error(i, n)
		}
	}
}

// P3.4
func TestLimitPlain(t *testing.T) {
	for i, m := range towns(32, 500) {
		for _, w := range m.Works {
			for _, offset := range []int64{w.From - 1, w.From, w.To, w.To + 1, length(m, w.Lane)} {
				for _, tick := range []int64{w.Begin - 1, w.Begin, w.End - 1, w.End} {
					want := m.Lanes[w.Lane].Limit
					for _, v := range m.Works {
						if v.Lane == w.Lane && v.From <= offset && offset <= v.To && v.Begin <= tick && tick < v.End && v.Limit < want {
							want = v.Limit
						}
					}
					if offset < 0 || offset > length(m, w.Lane) {
						want = 0
					}
					if n := roads.Limit(m, w.Lane, offset, tick); n != want {
						t.Error(i, w, offset, tick, n)
					}
				}
			}
		}
	}
}
