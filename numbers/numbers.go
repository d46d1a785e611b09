// Package numbers writes numbers as bytes behind a mark, and reads them again.
// Each number has eight bytes, the highest one first, in two's complement.
package numbers

import "strings"

// size is how many bytes a number has.
const size = 8

// Writer writes numbers one after the other.
type Writer struct {
	text strings.Builder
}

// NewWriter returns a writer that has written the mark.
func NewWriter(mark string) *Writer {
	w := &Writer{}
	w.text.WriteString(mark)
	return w
}

// Put writes numbers.
func (w *Writer) Put(numbers ...int64) {
	for _, n := range numbers {
		for shift := 8 * (size - 1); shift >= 0; shift -= 8 {
			w.text.WriteByte(byte(n >> shift))
		}
	}
}

// PutInt writes a number that is an int.
func (w *Writer) PutInt(n int) {
	w.Put(int64(n))
}

// Text returns what was written.
func (w *Writer) Text() string {
	return w.text.String()
}

// Write writes how many rows there are, and each of them.
func Write[R any](w *Writer, rows []R, one func(*Writer, R)) {
	w.PutInt(len(rows))
	for _, row := range rows {
		one(w, row)
	}
}

// Reader reads numbers one after the other. It never fails: what it reads has
// to be compared with what a writer would have written.
type Reader struct {
	text string
}

// NewReader returns a reader of what is behind the mark, if s begins with it.
func NewReader(s, mark string) (*Reader, bool) {
	text, ok := strings.CutPrefix(s, mark)
	if !ok {
		return nil, false
	}
	return &Reader{text: text}, true
}

// Next reads a number, 0 if there is none left.
func (r *Reader) Next() int64 {
	if len(r.text) < size {
		return 0
	}
	var n int64
	for i := range size {
		n = n<<8 | int64(r.text[i])
	}
	r.text = r.text[size:]
	return n
}

// NextInt reads a number that is an int.
func (r *Reader) NextInt() int {
	return int(r.Next())
}

// Read reads how many rows there are, and each of them: none, if there are
// more than most.
func Read[R any](r *Reader, most int64, one func(*Reader) R) []R {
	count := r.Next()
	if count > most {
		return nil
	}
	var rows []R
	for range count {
		rows = append(rows, one(r))
	}
	return rows
}
