package topic_test

import (
	"fmt"
	"slices"
	"strings"
	"testing"

	"rebuttal/api"
	"rebuttal/topic"
)

// written are papers whose Ids are p and one of their authors each, who is the first one.
func written(authors ...string) []api.Paper {
	var l []api.Paper
	for _, a := range authors {
		first, _, _ := strings.Cut(a, " ")
		l = append(l, paper("p"+first, a, ""))
	}
	return l
}

// wishes are bids with BidYes: words of a person and the first author of a paper.
func wishes(words ...string) []api.Bid {
	var b []api.Bid
	for _, w := range words {
		person, author, _ := strings.Cut(w, " ")
		b = append(b, bid("p"+author, person, api.BidYes))
	}
	slices.SortFunc(b, func(x, y api.Bid) int { return strings.Compare(x.Paper+" "+x.Person, y.Paper+" "+y.Person) })
	return b
}

// P3.6: Rings.
func TestRings(t *testing.T) {
	papers := written("a", "b", "c", "d", "e", "f")
	for _, c := range []struct {
		b    []api.Bid
		want [][]string
	}{
		{nil, nil},
		{wishes("a b"), nil},
		{wishes("a b", "b c", "c d"), nil},
		{wishes("a b", "b a"), [][]string{{"a", "b"}}},
		{wishes("c b", "b a", "a c"), [][]string{{"a", "b", "c"}}},
		{wishes("f a", "a f", "b e", "e b", "a b"), [][]string{{"a", "f"}, {"b", "e"}}},
		{wishes("f a", "a f", "b e", "e b", "a b", "e f"), [][]string{{"a", "b", "e", "f"}}},
		{wishes("a b", "b a", "b c", "c b"), [][]string{{"a", "b", "c"}}},
		{wishes("a b", "b a", "b c", "c d", "d c", "e a", "d f"), [][]string{{"a", "b"}, {"c", "d"}}},
		{wishes("a a", "b b"), nil},
		{wishes("x a", "a b", "b a", "x b"), [][]string{{"a", "b"}}},
	} {
		is(t, pack(topic.Rings(papers, c.b)), all(c.want, api.OK))
	}
	// Other levels do not court; an eager one does.
	for level, want := range map[int][][]string{api.BidNo: {}, api.BidMaybe: {}, api.BidYes: {{"a", "b"}}, api.BidEager: {{"a", "b"}}} {
		b := wishes("a b", "b a")
		b[0].Level = level
		is(t, pack(topic.Rings(papers, b)), all(want, api.OK))
	}
	is(t, pack(topic.Rings(nil, nil)), all([][]string{}, api.OK))
}

// P3.6: papers with several authors; nobody courts anybody by their own paper.
func TestRingsOfAuthors(t *testing.T) {
	papers := written("a", "b c", "d a")
	for _, c := range []struct {
		b    []api.Bid
		want [][]string
	}{
		{wishes("b a", "a b"), [][]string{{"a", "b"}}},
		{wishes("b a", "a b", "c a"), [][]string{{"a", "b", "c"}}},
		{wishes("b b", "c b"), nil},
		{wishes("a d", "d a"), nil},
		{wishes("a b", "b d"), [][]string{{"a", "b"}}},
		{wishes("d b", "b d"), [][]string{{"b", "d"}}},
		{wishes("d b", "b d", "a b"), [][]string{{"a", "b", "d"}}},
	} {
		is(t, pack(topic.Rings(papers, c.b)), all(c.want, api.OK))
	}
}

// P3.6: the errors of Rings.
func TestRingsErrors(t *testing.T) {
	type given struct {
		papers []api.Paper
		b      []api.Bid
	}
	check := func(x given) api.Errno {
		l, e := topic.Rings(x.papers, x.b)
		if e != api.OK {
			is(t, l, [][]string{})
		}
		return e
	}
	x := given{append(written("a"), api.Paper{}), append(slices.Repeat(wishes("b x"), api.MaxBids), api.Bid{})}
	climb(t, x, check, []rung[given]{
		{api.ErrName, func(x *given) { x.papers[1] = paper("pb", "", "") }},
		{api.ErrNone, func(x *given) { x.papers = written("b", "a") }},
		{api.ErrOrder, func(x *given) { x.papers = written("a", "b") }},
		{api.ErrLarge, func(x *given) { x.b = []api.Bid{bid("pa", "b", 0), bid("p", "B", 1)} }},
		{api.ErrKind, func(x *given) { x.b[0].Level = 1 }},
		{api.ErrName, func(x *given) { x.b[1].Person = "b" }},
		{api.ErrOrder, func(x *given) { x.b = append(wishes("b a", "a x"), bid("py", "b", 0)) }},
		{api.ErrKind, func(x *given) { x.b[2].Level = 1 }},
		{api.ErrNone, func(x *given) { x.b = x.b[:1] }},
	})
	// A person need not be known, and a paper can have any topics.
	papers := written("a")
	papers[0].Topics = keys(api.MaxTopics)
	is(t, pack(topic.Rings(papers, wishes("nobody a"))), all([][]string{}, api.OK))
}

// courting are the pairs of persons of whom one courts the other one, directly or by others.
func courting(papers []api.Paper, b []api.Bid) map[[2]string]bool {
	courts := map[[2]string]bool{}
	var names []string
	for _, x := range b {
		names = append(names, x.Person)
		for _, p := range papers {
			if p.Id == x.Paper && x.Level >= api.BidYes && !slices.Contains(p.Authors, x.Person) {
				for _, a := range p.Authors {
					courts[[2]string{x.Person, a}] = true
				}
			}
		}
	}
	for _, by := range names {
		for _, from := range names {
			for _, p := range papers {
				for _, to := range p.Authors {
					if courts[[2]string{from, by}] && courts[[2]string{by, to}] {
						courts[[2]string{from, to}] = true
					}
				}
			}
		}
	}
	return courts
}

// P3.6: some bids, compared with a plain version.
func TestRingsPlain(t *testing.T) {
	d := dice(23)
	found := 0
	names := []string{"a", "b", "c", "d", "e", "f", "g", "h", "i"}
	for range 500 {
		var papers []api.Paper
		var b []api.Bid
		for i := range 1 + d.below(7) {
			p := paper(fmt.Sprint("p", i), strings.Join(append(d.some(names, 2), "z"), " "), "")
			papers = append(papers, p)
			for _, name := range d.some(names, 8) {
				b = append(b, bid(p.Id, name, 1+d.below(4)))
			}
		}
		courts := courting(papers, b)
		var want [][]string
		for _, first := range names {
			ring := slices.DeleteFunc(slices.Clone(names), func(o string) bool {
				return o != first && !(courts[[2]string{first, o}] && courts[[2]string{o, first}])
			})
			if len(ring) > 1 && ring[0] == first {
				want = append(want, ring)
			}
		}
		found += len(want)
		is(t, pack(topic.Rings(papers, b)), all(want, api.OK))
	}
	if found < 50 {
		t.Error(found)
	}
}
