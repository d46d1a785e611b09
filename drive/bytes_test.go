package drive_test

import (
	"testing"

	"kerbstone/api"
	"kerbstone/drive"
)

// P8.5
func TestBytes(t *testing.T) {
	s := setup()
	s.Tick = 1 << 33
	n := node(t, s)
	want := "kbn1" + eights(1<<33, 1, 0, 1, 0, 1<<33, 10000, 10000, 0, 0, 2, 0, 0, 5999, 0, 2000, 0, 0, 10001, 100000, 0, 2000, 0)
	if got := n.Bytes(); got != want {
		t.Errorf("%q", got)
	}
	idle(t, n, 1)
	want = "kbn1" + eights(1<<33+1, 1, 7, 5, 0, 0, 0, 0, -30, 1<<33, 10000, 10000, 0, 0, 2, 0, 0, 5999, 0, 2000, 0, 0, 10001, 100000, 0, 2000, 0)
	if got := n.Bytes(); got != want {
		t.Errorf("%q", got)
	}
	do(t, n, api.Input{Tick: n.Now(), Scans: []api.Scan{seen(n.Now(), span(0, 0, 100000))}, Fixes: []api.Mark{mark(n.Now(), 0, far)}})
	want = "kbn1" + eights(1<<33+2, 1, 1, 13, 20, 20, 20, 20, 20, 20, 0, 0, 0, 0, -30, -60, -60, 1<<33+1, 10000, 10000, 0, 0, 0)
	if got := n.Bytes(); got != want {
		t.Errorf("%q", got)
	}
	do(t, n, api.Input{Tick: n.Now(), Speeds: []api.Mark{mark(n.Now(), 500, 600)}})
	want = "kbn1" + eights(1<<33+3, 2, 1, 12, 20, 20, 20, 20, 20, 0, 0, 0, 0, -30, -60, -60, 1<<33+2, 10020, 10020, 20, 20, 2, 0, 0, 6019, 0, 2000, 0, 0, 10021, 100000, 0, 2000, 0)
	if got := n.Bytes(); got != want {
		t.Errorf("%q", got)
	}
}

// P8.5: a blob has all of its numbers in the bytes: its lane, and the line
// before which all stay.
func TestBytesOfBlobs(t *testing.T) {
	s := setup()
	s.Map, s.Tick = lights(), 10
	n := node(t, s)
	scan := seen(10, span(0, 0, 100000), span(1, 0, 100000))
	scan.Points = []api.Point{point(50000, -12000, 300)}
	do(t, n, api.Input{Tick: 10, Scans: []api.Scan{scan}})
	idle(t, n, 1)
	want := eights(11, 10020, 10020, 20, 20, 3, 0, 0, 0, 0, 2000, 0, 1, 0, 0, 0, 2000, 0, 1, 38105, 38435, 205, 335, 48000)
	if got := n.Bytes(); got[len(got)-len(want):] != want {
		t.Error(n.Know())
	}
}

// P8.5, P8.11: a copy is in the same state, and then each one goes its own way.
func TestCopy(t *testing.T) {
	d := &dice{86}
	for i, x := range rides(t, 87, 40) {
		p := post{}
		for tick := range d.roll(0, 15) {
			d.scatter(p, x.n.Now(), x.measure(d))
			do(t, x.n, p.arrive(x.n.Now()))
			if tick > 8 {
				do(t, x.n, d.legal(x.n))
			}
			x.move(t, d, act(x.n))
		}
		before := x.n.Bytes()
		to, third := x.n.Copy(), x.n.Copy()
		if to == x.n || to.Bytes() != before || !to.Same(x.n) || !x.n.Same(to) || to.Verdict() != x.n.Verdict() {
			t.Fatal(i, "the copy is another one")
		}
		var inputs []api.Input
		for range 7 {
			inputs = append(inputs, d.legal(to))
			do(t, to, inputs[len(inputs)-1])
			to.Reset()
		}
		if x.n.Bytes() != before || third.Bytes() != before || x.n.Same(to) {
			t.Fatal(i, "a node changes with its copy")
		}
		for _, n := range []*drive.Node{x.n, third.Copy(), third} {
			for _, input := range inputs {
				do(t, n, input)
				n.Reset()
			}
			if n.Bytes() != to.Bytes() || !n.Same(to) {
				t.Fatal(i, "copies do something else")
			}
		}
	}
}

// legal returns an input that a node takes.
func (d *dice) legal(n *drive.Node) api.Input {
	x := d.lie(n)
	x.Tick = n.Now()
	return x
}

// P8.5: two nodes with the same bytes are the same, whatever they remember.
func TestSame(t *testing.T) {
	a, b := node(t, setup()), node(t, setup())
	if !a.Same(b) || !a.Same(a) {
		t.Error("two new nodes")
	}
	s := setup()
	s.Silence, s.Signals, s.Budget = 9, false, 1
	c := node(t, s)
	if !a.Same(c) {
		t.Error("the setup does not matter")
	}
	idle(t, a, 1)
	if a.Same(b) || b.Same(a) {
		t.Error("another tick")
	}
	do(t, b, api.Input{Fixes: []api.Mark{mark(0, 0, far)}})
	if !a.Same(b) {
		t.Error("what is remembered does not matter")
	}
	if idle(t, c, 1); a.Same(c) {
		t.Error("another search")
	}
	see(t, a)
	do(t, b, api.Input{Tick: 1, Scans: []api.Scan{seen(1, span(0, 0, 59999))}})
	if a.Same(b) {
		t.Error("something else is known")
	}
	a, b = node(t, setup()), node(t, setup())
	for range 7 {
		idle(t, a, 1)
		idle(t, b, 1)
	}
	if a.Mode() != api.ModeFallback || !a.Same(b) || b.Reset() != api.OK || a.Same(b) {
		t.Error("another mode")
	}
}
