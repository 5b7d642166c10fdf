package pairs

import (
	"fmt"
	"slices"
	"strings"
	"testing"

	"rebuttal/api"
)

// list are pairs from words of a paper and a person with a blank between.
func list(words ...string) []api.Pair {
	var l []api.Pair
	for _, w := range words {
		paper, person, _ := strings.Cut(w, " ")
		l = append(l, api.Pair{Paper: paper, Person: person})
	}
	return l
}

// many are so many pairs, in order.
func many(n int) []api.Pair {
	var l []api.Pair
	for i := range n {
		l = append(l, api.Pair{Paper: fmt.Sprintf("p%04d", i/api.MaxPeople), Person: fmt.Sprintf("k%04d", i%api.MaxPeople)})
	}
	return l
}

func TestCompare(t *testing.T) {
	l := list(" ", "a ", "a a", "a b", "a0 a", "aa a", "b  ", "b a")
	for i, a := range l {
		for j, b := range l {
			if got := Compare(a, b); got < 0 != (i < j) || got > 0 != (i > j) {
				t.Error(a, b, got)
			}
		}
	}
}

// P4.1: lists of pairs.
func TestCheck(t *testing.T) {
	for _, c := range []struct {
		l    []api.Pair
		want api.Errno
	}{
		{nil, api.OK},
		{list("p a"), api.OK},
		{list("p a", "p b", "q a", "q0 a"), api.OK},
		{list("p b", "q a"), api.OK},
		{list("P a"), api.ErrName},
		{list(" a"), api.ErrName},
		{list("p "), api.ErrName},
		{list("p A"), api.ErrName},
		{list("q a", "p A"), api.ErrName},
		{list("q a", "P a"), api.ErrName},
		{list("p a", "p a", "P a"), api.ErrOrder},
		{list("p a", "p a"), api.ErrOrder},
		{list("p b", "p a"), api.ErrOrder},
		{list("q a", "p b"), api.ErrOrder},
		{list("p a", "q b", "q a"), api.ErrOrder},
		{many(api.MaxPapers * api.MaxPeople), api.OK},
		{many(api.MaxPapers*api.MaxPeople + 1), api.ErrLarge},
		{slices.Repeat(list("P a"), api.MaxPapers*api.MaxPeople+1), api.ErrLarge},
		{slices.Repeat(list("p a"), api.MaxPapers*api.MaxPeople), api.ErrOrder},
	} {
		if e := Check(c.l); e != c.want {
			t.Errorf("%d pairs, %.3v: got %d, want %d", len(c.l), c.l[:min(4, len(c.l))], e, c.want)
		}
	}
}

func TestHasAndWithout(t *testing.T) {
	l := many(1000)
	for i, p := range l {
		if !Has(l, p) || Has(slices.Concat(l[:i], l[i+1:]), p) {
			t.Error(p)
		}
	}
	for _, p := range list(" ", "p0000 ", "p0000 k", "p0000 k9999", "z a", "a z") {
		if Has(l, p) || Has(nil, p) {
			t.Error(p)
		}
	}
	for _, c := range [][3][]api.Pair{
		{nil, nil, nil},
		{nil, list("p a"), nil},
		{list("p a"), nil, list("p a")},
		{list("p a", "p b", "q a"), list("p b", "q b"), list("p a", "q a")},
		{list("p a", "p b"), list("p a", "p b", "q a"), nil},
		{list("z a", "p b", "p a", "z a"), list("p a"), list("z a", "p b", "z a")},
	} {
		if got := Without(c[0], c[1]); !slices.Equal(got, c[2]) {
			t.Error(c, got)
		}
	}
}
