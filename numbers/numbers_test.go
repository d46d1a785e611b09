package numbers_test

import (
	"math"
	"slices"
	"testing"

	"kerbstone/numbers"
)

func TestWriter(t *testing.T) {
	w := numbers.NewWriter("mark")
	w.Put()
	w.Put(258, -1)
	w.PutInt(math.MinInt64)
	numbers.Write(w, []int{7, math.MaxInt64}, (*numbers.Writer).PutInt)
	numbers.Write(w, nil, (*numbers.Writer).PutInt)
	want := "mark" + "\x00\x00\x00\x00\x00\x00\x01\x02" + "\xff\xff\xff\xff\xff\xff\xff\xff" + "\x80\x00\x00\x00\x00\x00\x00\x00" +
		"\x00\x00\x00\x00\x00\x00\x00\x02" + "\x00\x00\x00\x00\x00\x00\x00\x07" + "\x7f\xff\xff\xff\xff\xff\xff\xff" + "\x00\x00\x00\x00\x00\x00\x00\x00"
	if s := w.Text(); s != want {
		t.Errorf("%q", s)
	}
	if s := numbers.NewWriter("").Text(); s != "" {
		t.Errorf("%q", s)
	}
}

func TestReader(t *testing.T) {
	w := numbers.NewWriter("mark")
	l := []int64{0, 1, -1, 258, math.MaxInt64, math.MinInt64, 1 << 40}
	w.Put(l...)
	w.Put(3, 5, 6, 7, 4)
	r, ok := numbers.NewReader(w.Text()+"rest", "mark")
	if !ok {
		t.Fatal("the mark is not found")
	}
	for i, want := range l {
		if n := r.Next(); n != want {
			t.Error(i, n)
		}
	}
	if rows := numbers.Read(r, 3, (*numbers.Reader).NextInt); !slices.Equal(rows, []int{5, 6, 7}) {
		t.Error(rows)
	}
	if rows := numbers.Read(r, 3, (*numbers.Reader).Next); rows != nil {
		t.Error("more rows than there may be are read:", rows)
	}
	// What is not a whole number any more is none.
	if a, b := r.Next(), r.NextInt(); a != 0 || b != 0 {
		t.Error(a, b)
	}
	for i, s := range []string{"", "mar", "Mark", "mork\x00\x00\x00\x00\x00\x00\x00\x00", " mark"} {
		if r, ok := numbers.NewReader(s, "mark"); ok || r != nil {
			t.Error(i, "a mark is found")
		}
	}
	below, _ := numbers.NewReader("\xff\xff\xff\xff\xff\xff\xff\xff\x00", "")
	if rows := numbers.Read(below, 5, (*numbers.Reader).Next); len(rows) > 0 {
		t.Error(rows)
	}
}
