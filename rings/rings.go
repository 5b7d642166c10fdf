// Package rings finds persons who come to each other, from one to the next one.
package rings

import (
	"maps"
	"slices"
	"strings"
)

// Of are the greatest sets of at least two persons who come to each other; next are those to whom each one comes by one step. Each set is sorted, and they are in the order of their first persons.
//
// It walks twice (Kosaraju's way). The first walk says in which order it is done with persons. The second one goes back, each time from the one who was done last of those whom it has not come to yet: whom it comes to then is the ring of this one.
func Of(next map[string][]string) [][]string {
	var done []string
	before := map[string][]string{}
	forth := walker(next)
	for _, p := range slices.Sorted(maps.Keys(next)) {
		for _, q := range next[p] {
			before[q] = append(before[q], p)
		}
		forth(p, func(q string) { done = append(done, q) })
	}
	var l [][]string
	back := walker(before)
	for _, p := range slices.Backward(done) {
		var ring []string
		back(p, func(q string) { ring = append(ring, q) })
		if len(ring) > 1 {
			slices.Sort(ring)
			l = append(l, ring)
		}
	}
	slices.SortFunc(l, func(a, b []string) int { return strings.Compare(a[0], b[0]) })
	return l
}

// walker is a function that goes from a person to all to whom they come and to whom it has not come before, and says of each one when it is done with those behind.
func walker(next map[string][]string) func(string, func(string)) {
	seen := map[string]bool{}
	var walk func(string, func(string))
	walk = func(p string, done func(string)) {
		if seen[p] {
			return
		}
		seen[p] = true
		for _, q := range next[p] {
			walk(q, done)
		}
		done(p)
	}
	return walk
}
