package rules_test

import (
	"slices"
	"strings"
	"testing"

	"kerbstone/api"
	"kerbstone/rules"
)

// P6.8
func TestTexts(t *testing.T) {
	for s, f := range map[string][]api.Node{
		"true": yes(), "le 0 -1 5": atMost(5), "le 11 0 -2199023255552": le(11, 0, -2<<40), "le 0 11 2199023255552": le(0, 11, 2<<40), "le 0 0 0": le(0, 0, 0), "le 10 -1 -10": le(10, -1, -10),
		"not true": not(yes()), "and true le 0 -1 5": and(yes(), atMost(5)), "or le 0 -1 5 true": or(atMost(5), yes()), "always 0 20 true": always(0, 20, yes()), "some 3 10 true": some(3, 10, yes()), "until 0 2 true le 0 -1 0": until(0, 2, yes(), atMost(0)),
		"not le 0 -1 -5": not(atMost(-5)), "until 20 20 and true not true always 0 0 or true some 1 2 le 3 4 100": until(20, 20, and(yes(), no()), always(0, 0, or(yes(), some(1, 2, le(3, 4, 100))))),
		strings.Repeat("not ", 39) + "true": times(39, api.Node{Op: api.OpNot}, yes()), "always 20 20 always 20 20 some 20 20 true": times(2, api.Node{Op: api.OpAlways, Lo: 20, Hi: 20}, some(20, 20, yes())),
	} {
		if text, e := rules.Text(f); e != api.OK || text != s {
			t.Error(s, text, e)
		}
		if g, e := rules.Parse(s); e != api.OK || !slices.Equal(g, f) {
			t.Error(s, g, e)
		}
	}
}

// P6.8
func TestTextErrors(t *testing.T) {
	for i, x := range []struct {
		f    []api.Node
		want api.Errno
	}{
		{nil, api.ErrShort}, {[]api.Node{{}}, api.ErrKind}, {[]api.Node{{Op: api.OpTrue, L: 1}}, api.ErrForm}, {le(12, 0, 0), api.ErrRange}, {le(0, -2, 0), api.ErrRange}, {some(0, 21, yes()), api.ErrRange}, {slices.Repeat(yes(), 2), api.ErrLong}, {slices.Repeat(yes(), 41), api.ErrLong},
		{some(0, 1, nil), api.ErrShort}, {times(4, api.Node{Op: api.OpSome, Hi: 20}, yes()), api.ErrFull},
	} {
		if s, e := rules.Text(x.f); e != x.want || s != "" {
			t.Error(i, s, e)
		}
	}
}

// P6.8: what does not consist of nodes.
func TestParseForm(t *testing.T) {
	for _, s := range []string{
		"", " ", "  ", "true ", " true", "true  true", "not  true", "not true ", "\ttrue", "true\n", "not\ttrue", "not\ntrue", "True", "TRUE", "tru", "truee", "less 0 -1 5", "t", "true\x00", "false", "\xff", "le", "le ", "le 0", "le 0 ", "le 0 -1", "le 0 -1 ", "le 0 -1 5 ",
		"always 0 03 true", "always 0", "always", "always 0 true", "always true", "some 1", "until 1", "until true true", "always 0 3 ", "always 0  3 true", "always  0 3 true", "always 0 3 true 4", "true 4", "le 0 -1 5 5", "0", "5 true", "-1",
		"le 0 -1 +5", "le 0 -1 -0", "le 0 -1 00", "le 0 -1 -05", "le 0 -1 05", "le 00 -1 5", "le 0 -01 5", "le +0 -1 5", "le 0 -1 --5", "le 0 -1 -", "le 0 -1 5-", "le 0 -1 5.0", "le 0 -1 5e1", "le 0 -1 0x5", "le 0 -1 1_0", "le 0 -1 ٥", "le 0 -1 a", "le 0 -1 true", "le -0 -1 5",
		"le 0 -1 1000000000000000000", "le 0 -1 -1000000000000000000", "le 0 -1 9223372036854775807", "le 0 -1 -9223372036854775808", "le 0 -1 9223372036854775808", "le 0 -1 99999999999999999999999999", "le 1000000000000000000 0 0", "le 0 1000000000000000000 0", "some 0 1000000000000000000 true",
		"le 0 -1 000000000000000000005", "and true x",
		// A node that is none counts before all else, also far behind.
		strings.Repeat("true ", 41) + "no", strings.Repeat("not ", 100), strings.Repeat("not ", 1000) + "le 0 -1 05", "le 99 0 0 x", "some 5 3 true ", "true true not ", strings.Repeat("always 20 20 ", 5),
	} {
		if f, e := rules.Parse(s); e != api.ErrForm || f != nil {
			t.Errorf("%q: %v, %v", s, f, e)
		}
	}
}

// P6.8: nodes that are not a formula.
func TestParseCheck(t *testing.T) {
	for s, want := range map[string]api.Errno{
		"true true": api.ErrLong, "and true": api.ErrShort, "not": api.ErrShort, "always 0 3": api.ErrShort, "until 0 3 true": api.ErrShort, "le 12 0 0": api.ErrRange, "le 0 12 0": api.ErrRange, "le 0 -2 0": api.ErrRange, "le -1 0 0": api.ErrRange, "some 3 2 true": api.ErrRange, "some -1 2 true": api.ErrRange,
		"some 0 21 true": api.ErrRange, "le 0 0 2199023255553": api.ErrRange, "le 0 0 -2199023255553": api.ErrRange, "le 0 0 999999999999999999": api.ErrRange, "le 0 0 -999999999999999999": api.ErrRange, "le 999999999999999999 0 0": api.ErrRange, "some 0 999999999999999999 true": api.ErrRange,
		strings.Repeat("not ", 40) + "true": api.ErrLong, strings.Repeat("not ", 39) + "not": api.ErrShort, strings.Repeat("le 99 0 0 ", 40) + "true": api.ErrLong, strings.Repeat("not ", 1<<20) + "true": api.ErrLong, strings.Repeat("some 0 20 ", 4) + "true": api.ErrFull,
		"le 99 0 0 true": api.ErrRange,
	} {
		if f, e := rules.Parse(s); e != want || f != nil {
			t.Error(s[:min(len(s), 60)], f, e, want)
		}
	}
}
