package topic

import (
	"maps"
	"slices"
	"strings"

	"rebuttal/api"
	"rebuttal/submit"
)

// Rings are circles of authors who want to read each other.
func Rings(papers []api.Paper, b []api.Bid) ([][]string, api.Errno) {
	if e := submit.CheckPapers(papers); e != api.OK {
		return nil, e
	}
	if e := CheckBids(b); e != api.OK {
		return nil, e
	}
	number := paperNumbers(papers)
	for _, bid := range b {
		if _, known := number[bid.Paper]; !known {
			return nil, api.ErrNone
		}
	}
	courts, courted := map[string][]string{}, map[string][]string{}
	for _, bid := range b {
		authors := papers[number[bid.Paper]].Authors
		if !isWish(bid.Level) || slices.Contains(authors, bid.Person) {
			continue
		}
		for _, a := range authors {
			courts[bid.Person] = append(courts[bid.Person], a)
			courted[a] = append(courted[a], bid.Person)
		}
	}
	return rings(courts, courted), api.OK
}

// rings walks twice (Kosaraju's way). The first walk says in which order it is done with persons. The second one goes back, each time from the one who was done last of those whom it has not come to yet: whom it comes to then is the ring of this one.
func rings(courts, courted map[string][]string) [][]string {
	var done []string
	forth := walker(courts)
	for _, p := range slices.Sorted(maps.Keys(courts)) {
		forth(p, func(q string) { done = append(done, q) })
	}
	var l [][]string
	back := walker(courted)
	for _, p := range slices.Backward(done) {
		var ring []string
		back(p, func(q string) { ring = append(ring, q) })
		if len(ring) > 1 {
			slices.Sort(ring)
			l = append(l, ring)
		}
	}
	slices.SortFunc(l, func(a, b []string) int { return strings.Compare(a[0], b[0]) })
	return l
}

// walker is a function that goes from a person to all whom they reach and whom it has not come to before, and says of each one when it is done with those behind.
func walker(next map[string][]string) func(string, func(string)) {
	seen := map[string]bool{}
	var walk func(string, func(string))
	walk = func(p string, done func(string)) {
		if seen[p] {
			return
		}
		seen[p] = true
		for _, q := range next[p] {
			walk(q, done)
		}
		done(p)
	}
	return walk
}
