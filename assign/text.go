package assign

import (
	"rebuttal/api"
	"rebuttal/pairs"
	"rebuttal/syntax"
)

// Changed are the pairs that only b has, and those that only a has.
func Changed(a, b []api.Pair) ([]api.Pair, []api.Pair, api.Errno) {
	for _, l := range [][]api.Pair{a, b} {
		if e := pairs.Check(l); e != api.OK {
			return nil, nil, e
		}
	}
	return pairs.Without(b, a), pairs.Without(a, b), api.OK
}

// Text writes a list of pairs.
func Text(l []api.Pair) (string, api.Errno) {
	if e := pairs.Check(l); e != api.OK {
		return "", e
	}
	return syntax.Write(l, func(p api.Pair) string { return syntax.Line(p.Paper, p.Person) })
}

// Read reads a list of pairs.
func Read(text string) ([]api.Pair, int, api.Errno) {
	var l []api.Pair
	line, e := syntax.Read(text, func(line string) bool {
		words, ok := syntax.Words(line)
		if !ok || len(words) != 2 {
			return false
		}
		l = append(l, api.Pair{Paper: words[0], Person: words[1]})
		return true
	})
	if e != api.OK {
		return nil, line, e
	}
	if e := pairs.Check(l); e != api.OK {
		return nil, 0, e
	}
	return l, 0, api.OK
}
