// Package index finds the elements of lists by their keys, and what is above what. It works with numbers of elements, which are their places in the list.
package index

import (
	"slices"

	"rebuttal/api"
)

// Top is what is above an element that has no other one above it.
const Top = -1

// Of are the numbers of the elements with each key.
func Of[T any](l []T, key func(T) string) map[string]int {
	number := make(map[string]int, len(l))
	for i, x := range l {
		number[key(x)] = i
	}
	return number
}

// Two are the numbers of two keys; ErrNone if one of them is not known.
func Two(number map[string]int, a, b string) (int, int, api.Errno) {
	i, knownA := number[a]
	j, knownB := number[b]
	if !knownA || !knownB {
		return 0, 0, api.ErrNone
	}
	return i, j, api.OK
}

// Rising is what is wrong with keys: ErrNone if there is no element with one; ErrOrder if it is not greater than the one before.
func Rising(number map[string]int, keys []string) api.Errno {
	last := ""
	for _, key := range keys {
		if _, known := number[key]; !known {
			return api.ErrNone
		}
		if key <= last {
			return api.ErrOrder
		}
		last = key
	}
	return api.OK
}

// Distinct is what is wrong with keys: ErrNone if there is no element with one; ErrTwice if an earlier one is the same.
func Distinct(number map[string]int, keys []string) api.Errno {
	there := map[string]bool{}
	for _, key := range keys {
		if _, known := number[key]; !known {
			return api.ErrNone
		}
		if there[key] {
			return api.ErrTwice
		}
		there[key] = true
	}
	return api.OK
}

// Parents are the numbers of the elements next above. An element names the one above it by its key, or has an empty one instead. ErrNone if there is no element with a key; then ErrLoop if going up from an element one comes back to it.
func Parents[T any](l []T, number map[string]int, above func(T) string) ([]int, api.Errno) {
	parent := make([]int, len(l))
	for i, x := range l {
		parent[i] = Top
		key := above(x)
		if key == "" {
			continue
		}
		p, known := number[key]
		if !known {
			return nil, api.ErrNone
		}
		parent[i] = p
	}
	if hasLoop(parent) {
		return nil, api.ErrLoop
	}
	return parent, api.OK
}

// Path are an element and those above it, each one before the one above it.
func Path(parent []int, i int) []int {
	var l []int
	for ; i != Top; i = parent[i] {
		l = append(l, i)
	}
	return l
}

// Inside reports whether an element is another one, or below it.
func Inside(parent []int, a, b int) bool { return slices.Contains(Path(parent, a), b) }

// hasLoop goes up from each element; a way that has more steps than there are elements does not end.
func hasLoop(parent []int) bool {
	for i := range parent {
		steps := 0
		for p := i; p != Top; p = parent[p] {
			steps++
			if steps > len(parent) {
				return true
			}
		}
	}
	return false
}
