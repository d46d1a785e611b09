package track

import (
	"cmp"
	"slices"
	"sort"

	"kerbstone/api"
)

// spanned is a type whose values say something of all offsets of a span.
type spanned interface {
	span() api.Span
}

// joinable is one of which two values can be one, of the offsets of both and
// those between them.
type joinable[T any] interface {
	spanned
	with(T) T
}

// cuttable is one that can say the same of other offsets of its lane.
type cuttable[T any] interface {
	spanned
	over(from, to int64) T
}

// joined returns the values with an offset at least, sorted by their spans;
// two of a lane that are at most reach apart become one.
func joined[T joinable[T]](l []T, reach uint64) []T {
	sorted := slices.DeleteFunc(slices.Clone(l), func(x T) bool { return x.span().From > x.span().To })
	slices.SortFunc(sorted, func(x, y T) int { return bySpan(x.span(), y.span()) })
	var all []T
	for _, x := range sorted {
		last := len(all) - 1
		if last >= 0 && reaches(all[last].span(), x.span(), reach) {
			all[last] = all[last].with(x)
			continue
		}
		all = append(all, x)
	}
	return all
}

// bySpan compares spans by their lanes, and then by where they begin.
func bySpan(a, b api.Span) int {
	return cmp.Or(cmp.Compare(a.Lane, b.Lane), cmp.Compare(a.From, b.From))
}

// reaches reports whether b, which does not begin before a, begins at most
// reach behind its end.
func reaches(a, b api.Span, reach uint64) bool {
	// The difference of any two numbers fits, if it is taken without a sign.
	return a.Lane == b.Lane && (b.From <= a.To || uint64(b.From)-uint64(a.To) <= reach)
}

// cut returns what is left of values outside of holes, which are joined.
func cut[T cuttable[T]](l []T, holes []stretch) []T {
	var left []T
	for _, x := range l {
		from, to := x.span().From, x.span().To
		for _, h := range meeting(holes, x.span()) {
			if from < h.From {
				left = append(left, x.over(from, h.From-1))
			}
			from = h.To + 1
		}
		if from <= to {
			left = append(left, x.over(from, to))
		}
	}
	return left
}

// meeting returns those of joined values that have an offset of a span.
func meeting[T spanned](l []T, s api.Span) []T {
	first := sort.Search(len(l), func(i int) bool { return !ends(l[i].span(), s) })
	l = l[first:]
	behind := sort.Search(len(l), func(i int) bool { return ends(s, l[i].span()) })
	return l[:behind]
}

// ends reports whether a ends before b begins.
func ends(a, b api.Span) bool {
	return a.Lane < b.Lane || a.Lane == b.Lane && a.To < b.From
}

// blob is an api.Blob with a span.
type blob api.Blob

func (b blob) span() api.Span {
	return api.Span{Lane: b.Lane, From: b.Lo, To: b.Hi}
}

func (b blob) over(from, to int64) blob {
	b.Lo, b.Hi = from, to
	return b
}

func (b blob) with(c blob) blob {
	hold := max(b.Hold, c.Hold)
	if b.Hold == 0 || c.Hold == 0 {
		hold = 0
	}
	return blob{
		Lane: b.Lane,
		Lo:   min(b.Lo, c.Lo), Hi: max(b.Hi, c.Hi),
		VLo: min(b.VLo, c.VLo), VHi: max(b.VHi, c.VHi),
		Hold: hold,
	}
}

// blobs returns blobs as those of this package.
func blobs(l []api.Blob) []blob {
	return each(l, func(b api.Blob) blob { return blob(b) })
}

// plain returns blobs as those of api.
func plain(l []blob) []api.Blob {
	return each(l, func(b blob) api.Blob { return api.Blob(b) })
}

// hit is an api.Found with a span.
type hit api.Found

func (h hit) span() api.Span {
	return api.Span{Lane: h.Lane, From: h.Lo, To: h.Hi}
}

func (h hit) with(o hit) hit {
	return hit{
		Lane: h.Lane,
		Lo:   min(h.Lo, o.Lo), Hi: max(h.Hi, o.Hi),
		VLo: min(h.VLo, o.VLo), VHi: max(h.VHi, o.VHi),
	}
}

// stretch is a span of which nothing more is said.
type stretch api.Span

func (s stretch) span() api.Span {
	return api.Span(s)
}

func (s stretch) over(from, to int64) stretch {
	return stretch{Lane: s.Lane, From: from, To: to}
}

func (s stretch) with(o stretch) stretch {
	return s.over(min(s.From, o.From), max(s.To, o.To))
}

// each returns what one makes of each value of a list.
func each[A, B any](l []A, one func(A) B) []B {
	var made []B
	for _, x := range l {
		made = append(made, one(x))
	}
	return made
}
