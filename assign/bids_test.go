package assign_test

import (
	"fmt"
	"slices"
	"strings"
	"testing"

	"rebuttal/api"
	"rebuttal/assign"
)

// papers are some with an Id and authors of one letter each.
func papers(words ...string) []api.Paper {
	var l []api.Paper
	for _, w := range words {
		l = append(l, api.Paper{Id: w[:1], Authors: strings.Split(w[1:], "")})
	}
	return l
}

// P4.7: who leans to whom, directly and by others.
func TestSwapsAndRings(t *testing.T) {
	own := papers("pa", "qb", "rc", "sd")
	for _, c := range []struct {
		papers []api.Paper
		bids   string
		swaps  []api.Bond
		rings  [][]string
	}{
		{own, "", nil, nil},
		{own, "pb", nil, nil},
		{own, "pb qa", []api.Bond{{A: "a", B: "b"}}, [][]string{{"a", "b"}}},
		{own, "pb qc ra", nil, [][]string{{"a", "b", "c"}}},
		{own, "pb qa qc rb", []api.Bond{{A: "a", B: "b"}, {A: "b", B: "c"}}, [][]string{{"a", "b", "c"}}},
		{own, "pb qa rd sc", []api.Bond{{A: "a", B: "b"}, {A: "c", B: "d"}}, [][]string{{"a", "b"}, {"c", "d"}}},
		{own, "pb qa qc rd sc", []api.Bond{{A: "a", B: "b"}, {A: "c", B: "d"}}, [][]string{{"a", "b"}, {"c", "d"}}},
		{own, "pa qb", nil, nil},
		{own, "pb pz qa", []api.Bond{{A: "a", B: "b"}}, [][]string{{"a", "b"}}},
		// Several authors, in any order; one leans to those with whom one has written, too.
		{papers("pba"), "pa pb", []api.Bond{{A: "a", B: "b"}}, [][]string{{"a", "b"}}},
		{papers("pab"), "pa", nil, nil},
		{papers("pzab", "qca"), "pc qb", []api.Bond{{A: "b", B: "c"}}, [][]string{{"b", "c"}}},
		{papers("pzab", "qca"), "pc qb qz", []api.Bond{{A: "b", B: "c"}, {A: "c", B: "z"}}, [][]string{{"b", "c", "z"}}},
		// Several ways from one to another one are one.
		{papers("pa", "qa", "rb", "sb"), "pb qb ra sa", []api.Bond{{A: "a", B: "b"}}, [][]string{{"a", "b"}}},
		{nil, "", nil, nil},
		{[]api.Paper{{Id: "p"}}, "pa", nil, nil},
	} {
		is(t, pack(assign.Swaps(c.papers, list(c.bids))), all(c.swaps, api.OK))
		is(t, pack(assign.Rings(c.papers, list(c.bids))), all(c.rings, api.OK))
	}
}

// P4.7: the errors of Swaps and Rings.
func TestBidsErrors(t *testing.T) {
	type given struct {
		papers []api.Paper
		bids   []api.Pair
	}
	check := func(x given) api.Errno {
		swaps, e := assign.Swaps(x.papers, x.bids)
		rings, other := assign.Rings(x.papers, x.bids)
		is(t, other, e)
		if e != api.OK {
			is(t, all(swaps, rings), all([]api.Bond{}, [][]string{}))
		}
		return e
	}
	x := given{make([]api.Paper, api.MaxPapers+1), slices.Repeat([]api.Pair{{}}, api.MaxLeans+1)}
	climb(t, x, check, []rung[given]{
		{api.ErrLarge, func(x *given) { x.papers = make([]api.Paper, 2) }},
		{api.ErrName, func(x *given) { x.papers[0].Id = "p" }},
		{api.ErrName, func(x *given) { x.papers[0].Authors = make([]string, api.MaxAuthors+1) }},
		{api.ErrLarge, func(x *given) { x.papers[0].Authors = keys(api.MaxAuthors + 1) }},
		{api.ErrLarge, func(x *given) { x.papers[0].Authors = []string{"a", "a", "A"} }},
		{api.ErrTwice, func(x *given) { x.papers[0].Authors = []string{"A", "A"} }},
		{api.ErrName, func(x *given) { x.papers[0].Authors = keys(api.MaxAuthors) }},
		{api.ErrName, func(x *given) { x.papers[1] = api.Paper{Id: "p", Authors: make([]string, api.MaxAuthors+1)} }},
		{api.ErrOrder, func(x *given) { x.papers[1].Id = "o" }},
		{api.ErrOrder, func(x *given) { x.papers[1].Id = "q" }},
		{api.ErrLarge, func(x *given) { x.papers[1].Authors = []string{"b", "a", "b"} }},
		{api.ErrTwice, func(x *given) { x.papers[1].Authors = []string{"b", "a"} }},
		{api.ErrLarge, func(x *given) { x.bids = list("pb xA xz") }},
		{api.ErrName, func(x *given) { x.bids = list("qb pa pa") }},
		{api.ErrOrder, func(x *given) { x.bids = list("xa xb") }},
		{api.ErrNone, func(x *given) { x.bids = list("oa pb") }},
		{api.ErrNone, func(x *given) { x.bids = list("pa pb qz") }},
	})
	for _, key := range badKeys {
		is(t, check(given{[]api.Paper{{Id: key}}, nil}), api.ErrName)
		is(t, check(given{[]api.Paper{{Id: "p", Authors: []string{"b", key}}}, nil}), api.ErrName)
		is(t, check(given{papers("pa"), []api.Pair{pair("p", key)}}), api.ErrName)
		is(t, check(given{papers("pa"), []api.Pair{pair(key, "b")}}), api.ErrName)
	}
	// Nothing else of a paper counts.
	odd := papers("pa")
	odd[0].Track, odd[0].Title, odd[0].Topics = "?", "\xff", []string{"", ""}
	is(t, check(given{odd, list("pb")}), api.OK)
}

// plainLeans are the pairs of persons of whom one leans to the other one.
func plainLeans(l []api.Paper, bids []api.Pair) map[[2]string]bool {
	leans := map[[2]string]bool{}
	for _, bid := range bids {
		for _, p := range l {
			for _, a := range p.Authors {
				if p.Id == bid.Paper && a != bid.Person {
					leans[[2]string{bid.Person, a}] = true
				}
			}
		}
	}
	return leans
}

// P4.7: some bids, compared with a plain version.
func TestBidsPlain(t *testing.T) {
	d := dice(31)
	names := strings.Fields("a b c d e f g h i")
	swapped, ringed := 0, 0
	for range 1000 {
		var l []api.Paper
		for i := range d.below(7) {
			l = append(l, api.Paper{Id: fmt.Sprint("p", i), Authors: d.some(names, 3)})
			slices.Reverse(l[i].Authors)
		}
		var ids []string
		for _, p := range l {
			ids = append(ids, p.Id)
		}
		bids := d.pairs(ids, names, 4)
		leans := plainLeans(l, bids)
		var swaps []api.Bond
		for i, a := range names {
			for _, b := range names[i+1:] {
				if leans[[2]string{a, b}] && leans[[2]string{b, a}] {
					swaps = append(swaps, api.Bond{A: a, B: b})
				}
			}
		}
		for _, by := range names {
			for _, from := range names {
				for _, to := range names {
					if leans[[2]string{from, by}] && leans[[2]string{by, to}] {
						leans[[2]string{from, to}] = true
					}
				}
			}
		}
		var rings [][]string
		for _, first := range names {
			ring := slices.DeleteFunc(slices.Clone(names), func(o string) bool {
				return o != first && !(leans[[2]string{first, o}] && leans[[2]string{o, first}])
			})
			if len(ring) > 1 && ring[0] == first {
				rings = append(rings, ring)
			}
		}
		swapped, ringed = swapped+len(swaps), ringed+len(rings)
		is(t, pack(assign.Swaps(l, bids)), all(swaps, api.OK))
		is(t, pack(assign.Rings(l, bids)), all(rings, api.OK))
	}
	if swapped < 300 || ringed < 300 {
		t.Error(swapped, ringed)
	}
}

// P4.7: the greatest lists.
func TestBidsGreatest(t *testing.T) {
	// Everybody bids for papers of everybody.
	var l []api.Paper
	var bids []api.Pair
	for _, id := range keys(api.MaxLeans / api.MaxAuthors) {
		l = append(l, api.Paper{Id: id, Authors: keys(api.MaxAuthors)})
		for _, a := range keys(api.MaxAuthors) {
			bids = append(bids, pair(id, a))
		}
	}
	rings, e := assign.Rings(l, bids)
	is(t, all(rings, e), all([][]string{keys(api.MaxAuthors)}, api.OK))
	swaps, e := assign.Swaps(l, bids)
	is(t, all(len(bids), len(swaps), e), all(api.MaxLeans, api.MaxAuthors*(api.MaxAuthors-1)/2, api.OK))
	// All authors differ, and all bid for the next paper.
	l, bids = nil, nil
	authors := keys(api.MaxPapers * 12)
	for i, id := range keys(api.MaxPapers) {
		l = append(l, api.Paper{Id: id, Authors: authors[i*12 : i*12+12]})
		before := (i + api.MaxPapers - 1) % api.MaxPapers * 12
		for _, a := range authors[before : before+12] {
			bids = append(bids, pair(id, a))
		}
	}
	rings, e = assign.Rings(l, bids)
	is(t, all(len(rings), len(rings[0]), e), all(1, len(authors), api.OK))
	swaps, e = assign.Swaps(l, bids)
	is(t, all(len(swaps), e), all(0, api.OK))
}
