package rules

import (
	"strconv"
	"strings"

	"kerbstone/api"
)

// tooLong is the least number that has more than 18 digits.
const tooLong = 1_000_000_000_000_000_000

// word returns the word of an operator; none, if there is no such operator.
func word(op int) string {
	switch op {
	case api.OpTrue:
		return "true"
	case api.OpLess:
		return "le"
	case api.OpNot:
		return "not"
	case api.OpAnd:
		return "and"
	case api.OpOr:
		return "or"
	case api.OpAlways:
		return "always"
	case api.OpSome:
		return "some"
	case api.OpUntil:
		return "until"
	default:
		return ""
	}
}

// operator returns the operator of a word; 0, if it is not that of one.
func operator(s string) int {
	for op := api.OpTrue; op <= api.OpUntil; op++ {
		if word(op) == s {
			return op
		}
	}
	return 0
}

// figures returns the numbers that a node has in a text.
func figures(n api.Node) []int64 {
	switch n.Op {
	case api.OpLess:
		return []int64{int64(n.L), int64(n.R), n.K}
	case api.OpAlways, api.OpSome, api.OpUntil:
		return []int64{n.Lo, n.Hi}
	default:
		return nil
	}
}

// node returns the node with these numbers in a text.
func node(op int, l []int64) api.Node {
	switch op {
	case api.OpLess:
		return api.Node{Op: op, L: int(l[0]), R: int(l[1]), K: l[2]}
	case api.OpAlways, api.OpSome, api.OpUntil:
		return api.Node{Op: op, Lo: l[0], Hi: l[1]}
	default:
		return api.Node{Op: op}
	}
}

// Text returns a formula as a text.
func Text(f []api.Node) (string, api.Errno) {
	if e := Check(f, api.MaxWidth); e != api.OK {
		return "", e
	}
	var words []string
	for _, n := range f {
		words = append(words, word(n.Op))
		for _, x := range figures(n) {
			words = append(words, strconv.FormatInt(x, 10))
		}
	}
	return strings.Join(words, " "), api.OK
}

// Parse returns the formula that a text has.
func Parse(s string) ([]api.Node, api.Errno) {
	f, ok := read(s)
	if !ok {
		return nil, api.ErrForm
	}
	if e := Check(f, api.MaxWidth); e != api.OK {
		return nil, e
	}
	return f, api.OK
}

// read returns the nodes of a text, and whether it consists of nodes. Of nodes
// that are too many for a formula it returns one too many.
func read(s string) ([]api.Node, bool) {
	var f []api.Node
	whole := false
words:
	for !whole {
		head, rest, more := strings.Cut(s, " ")
		op := operator(head)
		if op == 0 {
			break
		}
		l := figures(api.Node{Op: op})
		for i := range l {
			var ok bool
			// Behind the last word there is an empty one, which is no number.
			head, rest, more = strings.Cut(rest, " ")
			if l[i], ok = number(head); !ok {
				break words
			}
		}
		if len(f) <= api.MaxNodes {
			f = append(f, node(op, l))
		}
		s, whole = rest, !more
	}
	return f, whole
}

// number returns the number of a word, and whether it is one, written as Text
// does.
func number(s string) (int64, bool) {
	n, err := strconv.ParseInt(s, 10, 64)
	if err != nil || n <= -tooLong || n >= tooLong {
		return 0, false
	}
	return n, strconv.FormatInt(n, 10) == s
}
