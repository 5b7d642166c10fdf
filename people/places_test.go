package people_test

import (
	"fmt"
	"strings"
	"testing"

	"rebuttal/api"
	"rebuttal/people"
)

func places(words ...string) []api.Place {
	var l []api.Place
	for _, w := range words {
		key, parent, _ := strings.Cut(w, " ")
		l = append(l, api.Place{Key: key, Parent: parent})
	}
	return l
}

func manyPlaces(n int) []api.Place {
	var l []api.Place
	for i := range n {
		l = append(l, api.Place{Key: fmt.Sprintf("p%03d", i)})
		if i > 0 {
			l[i].Parent = l[i-1].Key
		}
	}
	return l
}

// P1.1: which places are right; Inside, Above and Check return the same errors.
func TestPlacesRight(t *testing.T) {
	for _, c := range []struct {
		l    []api.Place
		want api.Errno
	}{
		{nil, api.OK},
		{places("a", "b a", "c b"), api.OK},
		{places("a c", "b a", "c"), api.OK},
		{manyPlaces(api.MaxPlaces), api.OK},
		{manyPlaces(api.MaxPlaces + 1), api.ErrLarge},
		{append(places("B"), manyPlaces(api.MaxPlaces)...), api.ErrLarge},
		{places(""), api.ErrName},
		{places("A"), api.ErrName},
		{places("a B"), api.ErrName},
		{places("b", "a"), api.ErrOrder},
		{places("a", "a"), api.ErrOrder},
		{places("b", "a B"), api.ErrOrder},
		{places("b B", "a"), api.ErrName},
		{places("b", "A"), api.ErrName},
		{places("a x"), api.ErrNone},
		{places("a x", "B"), api.ErrName},
		{places("b x", "a"), api.ErrOrder},
		{places("a a", "b x"), api.ErrNone},
		{places("a a"), api.ErrLoop},
		{places("a b", "b a"), api.ErrLoop},
		{places("a b", "b c", "c b"), api.ErrLoop},
		{places("a b", "b c", "c d", "d b"), api.ErrLoop},
		{places("a c", "b", "c d", "d a"), api.ErrLoop},
	} {
		is(t, people.Check(api.World{Places: c.l}), c.want)
		want := c.want
		if want == api.OK {
			want = api.ErrNone
		}
		ok, e := people.Inside(c.l, "no", "no")
		is(t, all(ok, e), all(false, want))
		l, e := people.Above(c.l, "no")
		is(t, all(len(l), e), all(0, want))
	}
}

// P1.1: what is inside what, and above what.
func TestInsideAndAbove(t *testing.T) {
	l := places("a c", "b a", "c", "d c", "e")
	want := map[string]string{"a": "a c", "b": "b a c", "c": "c", "d": "d c", "e": "e"}
	for a, inside := range want {
		for b := range want {
			ok, e := people.Inside(l, a, b)
			is(t, all(a, b, ok, e), all(a, b, strings.Contains(" "+inside+" ", " "+b+" "), api.OK))
		}
		above, e := people.Above(l, a)
		is(t, all(above, e), all(strings.Fields(inside)[1:], api.OK))
	}
	for _, c := range [][2]string{{"a", "x"}, {"x", "a"}, {"x", "x"}, {"", ""}, {"a", ""}} {
		ok, e := people.Inside(l, c[0], c[1])
		is(t, all(ok, e), all(false, api.ErrNone))
	}
	above, e := people.Above(l, "")
	is(t, all(above, e), all([]string{}, api.ErrNone))
}

// P1.1: as deep as it can be.
func TestDeepPlaces(t *testing.T) {
	l := manyPlaces(api.MaxPlaces)
	above, e := people.Above(l, "p199")
	is(t, all(len(above), above[0], above[198], e), all(199, "p198", "p000", api.OK))
	ok, e := people.Inside(l, "p199", "p000")
	is(t, all(ok, e), all(true, api.OK))
	ok, e = people.Inside(l, "p000", "p199")
	is(t, all(ok, e), all(false, api.OK))
	l[0].Parent = "p199"
	is(t, people.Check(api.World{Places: l}), api.ErrLoop)
}
