// Package pairs has what all chapters share of lists of papers and persons (P4.1 of the document).
package pairs

import (
	"cmp"
	"slices"
	"strings"

	"rebuttal/api"
	"rebuttal/syntax"
)

// most is how many pairs a list has at most.
const most = api.MaxPapers * api.MaxPeople

// Compare compares two pairs: by Paper, then by Person.
func Compare(a, b api.Pair) int {
	return cmp.Or(strings.Compare(a.Paper, b.Paper), strings.Compare(a.Person, b.Person))
}

// After is what is wrong with a pair behind another one. The first one of a list is behind the zero value, which is less than every pair of keys.
func After(p, last api.Pair) api.Errno {
	if !syntax.Key(p.Paper) || !syntax.Key(p.Person) {
		return api.ErrName
	}
	if Compare(p, last) <= 0 {
		return api.ErrOrder
	}
	return api.OK
}

// Check is what is wrong with a list of pairs.
func Check(l []api.Pair) api.Errno {
	if len(l) > most {
		return api.ErrLarge
	}
	var last api.Pair
	for _, p := range l {
		if e := After(p, last); e != api.OK {
			return e
		}
		last = p
	}
	return api.OK
}

// Has reports whether a pair is in a list that is right.
func Has(l []api.Pair, p api.Pair) bool {
	_, found := slices.BinarySearchFunc(l, p, Compare)
	return found
}

// Without are the pairs of a list that another one, which is right, does not have.
func Without(l, other []api.Pair) []api.Pair {
	var rest []api.Pair
	for _, p := range l {
		if !Has(other, p) {
			rest = append(rest, p)
		}
	}
	return rest
}
