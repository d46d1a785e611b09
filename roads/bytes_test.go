package roads_test

import (
	"encoding/binary"
	"slices"
	"strings"
	"testing"

	"kerbstone/api"
	"kerbstone/roads"
)

// numbersOf returns the numbers of the bytes of a map, valid or not.
func numbersOf(m api.Map) []int64 {
	l := []int64{m.Version, int64(len(m.Lanes))}
	add := func(numbers ...int64) { l = append(l, numbers...) }
	ints := func(numbers []int) {
		add(int64(len(numbers)))
		for _, n := range numbers {
			add(int64(n))
		}
	}
	for _, x := range m.Lanes {
		add(int64(x.Kind), x.Half, x.Limit, int64(len(x.Curve.Pts)))
		for _, p := range x.Curve.Pts {
			add(p.X, p.Y)
		}
		ints(x.Next)
	}
	add(int64(len(m.Zones)))
	for _, x := range m.Zones {
		add(int64(x.Signal), int64(len(x.Parts)))
		for _, p := range x.Parts {
			add(int64(p.Lane), p.From, p.To, int64(p.Rank))
		}
	}
	add(int64(len(m.Signals)))
	for _, x := range m.Signals {
		add(x.Offset, int64(len(x.Phases)))
		for _, p := range x.Phases {
			add(p.Ticks)
			ints(p.Green)
		}
	}
	add(int64(len(m.Works)))
	for _, x := range m.Works {
		add(int64(x.Lane), x.From, x.To, x.Begin, x.End, x.Limit)
	}
	return l
}

// text returns the bytes of numbers.
func text(numbers []int64) string {
	b := []byte("kbm1")
	for _, n := range numbers {
		b = binary.BigEndian.AppendUint64(b, uint64(n))
	}
	return string(b)
}

// P3.7
func TestBytes(t *testing.T) {
	small := api.Map{Version: 258, Lanes: []api.Lane{lane(of(-1, 0, 999, 0))}}
	want := "kbm1" +
		"\x00\x00\x00\x00\x00\x00\x01\x02" + "\x00\x00\x00\x00\x00\x00\x00\x01" +
		"\x00\x00\x00\x00\x00\x00\x00\x01" + "\x00\x00\x00\x00\x00\x00\x05\xdc" + "\x00\x00\x00\x00\x00\x00\x05\xdc" + "\x00\x00\x00\x00\x00\x00\x00\x02" +
		"\xff\xff\xff\xff\xff\xff\xff\xff" + "\x00\x00\x00\x00\x00\x00\x00\x00" + "\x00\x00\x00\x00\x00\x00\x03\xe7" + "\x00\x00\x00\x00\x00\x00\x00\x00" +
		strings.Repeat("\x00", 8*4)
	if b, e := roads.Bytes(small); e != api.OK || b != want {
		t.Errorf("%v %q", e, b)
	}
	if m, e := roads.Read(want); e != api.OK || !roads.Same(m, small) {
		t.Error(m, e)
	}
	for i, m := range towns(71, 300) {
		if b, e := roads.Bytes(m); e != api.OK || b != text(numbersOf(m)) {
			t.Error(i, e)
		}
	}
	if b, e := roads.Bytes(api.Map{}); e != api.ErrShort || b != "" {
		t.Error(b, e)
	}
}

// reads tests what Read makes of a string: a valid map only if it has these
// bytes.
func reads(t *testing.T, s string) bool {
	t.Helper()
	m, e := roads.Read(s)
	switch e {
	case api.OK:
		if roads.Check(m) != api.OK || text(numbersOf(m)) != s {
			t.Error(m, "has not the bytes", []byte(s))
		}
	case api.ErrForm:
		if !roads.Same(m, api.Map{}) {
			t.Error(m, e)
		}
	default:
		t.Error(e)
	}
	return e == api.OK
}

// P3.7: what is not the bytes of a valid map.
func TestReadErrors(t *testing.T) {
	for i, m := range []api.Map{lights(), fork(), full()} {
		s := text(numbersOf(m))
		if !reads(t, s) {
			t.Error(i)
		}
		for n := range len(s) {
			if reads(t, s[:n]) || reads(t, s[n:]) != (n == 0) {
				t.Error(i, n, "a part of the bytes is read")
			}
		}
		for _, more := range []string{"\x00", "kbm1", strings.Repeat("\x00", 8), strings.Repeat("\x00", 64), s} {
			if reads(t, s+more) || reads(t, more+s) {
				t.Error(i, more, "more than the bytes is read")
			}
		}
		for _, mark := range []string{"kbm0", "kbm2", "Kbm1", "kbw1", "kbn1", "\x00\x00\x00\x00"} {
			if reads(t, mark+s[4:]) {
				t.Error(i, mark)
			}
		}
	}
	for _, s := range []string{"", "k", "kbm1", "kbm1\x00", text([]int64{0}), text([]int64{0, 0, 0, 0, 0}), text([]int64{0, 1}), text([]int64{0, far}), text([]int64{0, low}), text([]int64{0, -1}), text([]int64{0, 1, 1, 1500, 1500, far}), text([]int64{0, 12})} {
		if reads(t, s) {
			t.Errorf("%q is read", s)
		}
	}
}

// P3.7: the bytes of a map that is not valid are not read.
func TestReadOfInvalidMaps(t *testing.T) {
	maps, errors := broken()
	for i, m := range maps {
		if reads(t, text(numbersOf(m))) {
			t.Error(i, errors[i], "is read")
		}
	}
}

// P3.7: each number is read as it is, or not at all.
func TestReadOfOtherNumbers(t *testing.T) {
	read := 0
	for _, m := range []api.Map{cross(), lights(), fork(), full()} {
		numbers := numbersOf(m)
		for n, old := range numbers {
			for _, x := range []int64{old - 1, old + 1, 0, 1, 2, 3, -1, old + 1<<32, old - 1<<32, old + 1<<40, old ^ low, far, low} {
				other := slices.Clone(numbers)
				other[n] = x
				if reads(t, text(other)) && x != old {
					read++
				}
			}
		}
		for n := range len(numbers) {
			reads(t, text(slices.Delete(slices.Clone(numbers), n, n+1)))
			reads(t, text(slices.Insert(slices.Clone(numbers), n, 0)))
		}
	}
	if read < 300 {
		t.Error("too few other maps were read to show anything:", read)
	}
}
