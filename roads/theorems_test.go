package roads_test

import (
	"math/big"
	"slices"
	"testing"

	"kerbstone/api"
	"kerbstone/roads"
)

// P3.8
func TestReadOfBytes(t *testing.T) {
	list := towns(91, 200)
	for i, m := range list {
		s, e := roads.Bytes(m)
		if e != api.OK {
			t.Fatal(i, e)
		}
		to, e := roads.Read(s)
		if e != api.OK || !roads.Same(to, m) || !slices.Equal(numbersOf(to), numbersOf(m)) {
			t.Error(i, e, to)
		}
		other, _ := roads.Bytes(list[(i+1)%len(list)])
		if other == s && !roads.Same(m, list[(i+1)%len(list)]) {
			t.Error(i, "two maps have the same bytes")
		}
	}
	// No string but its bytes has a map: whatever is changed in them, it is
	// another map that is read, or none.
	for i, m := range []api.Map{cross(), lights(), fork()} {
		s, _ := roads.Bytes(m)
		for n := range len(s) {
			for _, bit := range []byte{1, 2, 4, 128} {
				b := []byte(s)
				b[n] ^= bit
				to, e := roads.Read(string(b))
				if e != api.OK && e != api.ErrForm || roads.Same(to, m) {
					t.Error(i, n, bit, e)
				}
				if again, f := roads.Bytes(to); e == api.OK && (f != api.OK || again != string(b)) {
					t.Error(i, n, bit, f)
				}
			}
		}
	}
}

// P3.9
func TestApplyOfDiff(t *testing.T) {
	list := towns(92, 300)
	for i, a := range list {
		for k := range 3 {
			b := list[(11*i+5*k+1)%len(list)]
			p, e := roads.Diff(a, b)
			if e != api.OK {
				t.Fatal(i, e)
			}
			to, e := roads.Apply(a, p)
			want := roads.Copy(b)
			want.Version = a.Version + 1
			if e != api.OK || !roads.Same(to, want) {
				t.Error(i, k, e)
			}
		}
		same := roads.Copy(a)
		same.Version = 3
		if p, e := roads.Diff(a, same); e != api.OK || len(p.Edits) > 0 || p.Base != a.Version {
			t.Error(i, e, p)
		}
	}
}

// fitting returns maps that fit.
func fitting(seed uint64, count int) []api.Map {
	return slices.DeleteFunc(towns(seed, count), func(m api.Map) bool { return !roads.Fit(m) })
}

// P3.10
func TestZonesOfRoutes(t *testing.T) {
	later, entries := 0, 0
	for i, m := range fitting(93, 15000) {
		list := routes(m)
		for n := range m.Zones {
			for l := range m.Lanes {
				first := 0 // how many routes have a pass of the zone on this lane, first, and not first
				then := 0
				for _, route := range list {
					k := slices.Index(route, l)
					if k < 0 || !slices.ContainsFunc(roads.Passes(m, route), func(p api.Pass) bool { return p.Zone == n && m.Zones[n].Parts[p.Part].Lane == l }) {
						continue
					}
					if roads.Entry(m, route, n) == k {
						first++
					} else {
						then++
					}
				}
				if first > 0 && then > 0 {
					t.Error(i, n, l, first, then)
				}
				if then > 1 {
					later++
				}
				if first > 1 {
					entries++
				}
			}
		}
	}
	if later < 100 || entries < 100 {
		t.Error("too few routes have a zone in common to show anything:", later, entries)
	}
}

// P3.11
func TestPlacesOnRoutes(t *testing.T) {
	d := &dice{94}
	for i, m := range towns(95, 200) {
		for _, route := range routes(m) {
			starts, whole := roads.Starts(m, route), roads.RouteLength(m, route)
			coordinates := []int64{0, 1, whole - 1, whole, d.roll(0, whole)}
			for _, s := range starts[1:] {
				coordinates = append(coordinates, s-1, s, s+1)
			}
			for _, s := range coordinates {
				l, offset, ok := roads.Place(m, route, s)
				k := slices.Index(route, l)
				if !ok || k < 0 || starts[k]+offset != s || offset < 0 || offset > roads.Length(m, l) || offset == roads.Length(m, l) && s != whole {
					t.Error(i, route, s, l, offset, ok)
				}
			}
			last := make([]api.Pass, len(m.Lanes))
			for _, p := range roads.Passes(m, route) {
				part := m.Zones[p.Zone].Parts[p.Part]
				k := slices.Index(route, part.Lane)
				if k < 0 || p.From < 0 || p.To > whole || p.From != starts[k]+part.From || p.To != starts[k]+part.To {
					t.Error(i, route, p)
				}
				before := last[part.Lane]
				if before.From > p.From || before.To > 0 && before.From == p.From && before.Zone >= p.Zone {
					t.Error(i, route, p, before)
				}
				last[part.Lane] = p
			}
		}
	}
}

// P3.12
func TestSignals(t *testing.T) {
	d := &dice{96}
	some := 0
	for i, m := range fitting(97, 2000) {
		for n, s := range m.Signals {
			var cycle int64
			for _, p := range s.Phases {
				cycle += p.Ticks
			}
			for _, tick := range ticksOf(d, s) {
				next := new(big.Int).Add(big.NewInt(tick), big.NewInt(cycle))
				for l := range m.Lanes {
					if next.IsInt64() && roads.Green(m, n, l, tick) != roads.Green(m, n, l, tick+cycle) {
						t.Error(i, n, l, tick)
					}
				}
				for k, z := range m.Zones {
					green := 0
					for _, l := range roads.Entries(m, k) {
						if z.Signal > 0 && roads.Green(m, z.Signal-1, l, tick) {
							green++
						}
					}
					if green > 1 {
						t.Error(i, k, tick, green)
					}
					some += green
				}
			}
		}
	}
	if some < 300 {
		t.Error("too few entries are green to show anything:", some)
	}
	for i, m := range towns(98, 200) {
		for l := range m.Lanes {
			for _, tick := range []int64{0, 3, d.roll(0, 90)} {
				lines := roads.Red(m, l, tick)
				for _, z := range m.Zones {
					for _, p := range z.Parts {
						if p.Lane == l && z.Signal > 0 && !roads.Green(m, z.Signal-1, l, tick) != slices.Contains(lines, p.From) && !slices.ContainsFunc(m.Zones, func(o api.Zone) bool {
							return o.Signal != z.Signal && slices.ContainsFunc(o.Parts, func(q api.Part) bool { return q.Lane == l && q.From == p.From })
						}) {
							t.Error(i, l, tick, lines, p)
						}
					}
				}
			}
		}
	}
}

// P3.13
func TestLeads(t *testing.T) {
	for i, m := range towns(99, 200) {
		sources := roads.Sources(m)
		for a := range m.Lanes {
			if !slices.ContainsFunc(sources, func(s int) bool { return s == a || roads.Leads(m, s, a) }) {
				t.Error(i, a, sources)
			}
			if slices.Contains(sources, a) != (len(roads.Before(m, a)) == 0) {
				t.Error(i, a, sources)
			}
			for _, b := range roads.Before(m, a) {
				if !roads.Leads(m, b, a) || !slices.Contains(m.Lanes[b].Next, a) {
					t.Error(i, b, a)
				}
			}
			for b := range m.Lanes {
				if !roads.Leads(m, a, b) {
					continue
				}
				if a >= b {
					t.Error(i, a, b)
				}
				for c := range m.Lanes {
					if roads.Leads(m, b, c) && !roads.Leads(m, a, c) {
						t.Error(i, a, b, c)
					}
				}
			}
		}
	}
}

// P3.14
func TestWorksNeverHelp(t *testing.T) {
	d := &dice{101}
	less := 0
	for i, m := range towns(102, 300) {
		n := len(m.Works) - 1
		if n < 0 {
			continue
		}
		w := m.Works[n]
		without := roads.Copy(m)
		without.Works = without.Works[:n]
		for range 60 {
			l := int(d.pick(int64(w.Lane), int64(w.Lane), d.roll(0, int64(len(m.Lanes))-1)))
			offset, tick := d.pick(w.From-1, w.From, w.To, w.To+1, d.roll(w.From, w.To)), d.pick(w.Begin-1, w.Begin, w.End-1, w.End, d.roll(w.Begin, w.End))
			with, old := roads.Limit(m, l, offset, tick), roads.Limit(without, l, offset, tick)
			on := l == w.Lane && offset >= w.From && offset <= w.To && tick >= w.Begin && tick < w.End
			if with > old || with != old && (!on || with != w.Limit) || with > w.Limit && on {
				t.Error(i, l, offset, tick, with, old)
			}
			if with < old {
				less++
			}
		}
	}
	if less < 300 {
		t.Error("too few limits were made less to show anything:", less)
	}
}
