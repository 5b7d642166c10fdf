package people

import (
	"rebuttal/api"
	"rebuttal/syntax"
)

// Inside reports whether a place is another one, or a part of it.
func Inside(l []api.Place, a, b string) (bool, api.Errno) {
	if e := checkPlaces(l); e != api.OK {
		return false, e
	}
	number := placeNumbers(l)
	i, j, e := two(number, a, b)
	if e != api.OK {
		return false, e
	}
	return inside(parents(l, number), i, j), api.OK
}

// Above are the places above a place, its parent first.
func Above(l []api.Place, key string) ([]string, api.Errno) {
	if e := checkPlaces(l); e != api.OK {
		return nil, e
	}
	number := placeNumbers(l)
	i, known := number[key]
	if !known {
		return nil, api.ErrNone
	}
	var above []string
	parent := parents(l, number)
	for p := parent[i]; p != top; p = parent[p] {
		above = append(above, l[p].Key)
	}
	return above, api.OK
}

// top is the parent of a place that has none.
const top = -1

// checkPlaces has three passes, for the errors of a later one come after those of all places in an earlier one.
func checkPlaces(l []api.Place) api.Errno {
	if len(l) > api.MaxPlaces {
		return api.ErrLarge
	}
	last := ""
	for _, p := range l {
		if !syntax.Key(p.Key) {
			return api.ErrName
		}
		if p.Key <= last {
			return api.ErrOrder
		}
		if p.Parent != "" && !syntax.Key(p.Parent) {
			return api.ErrName
		}
		last = p.Key
	}
	number := placeNumbers(l)
	for _, p := range l {
		if _, known := number[p.Parent]; p.Parent != "" && !known {
			return api.ErrNone
		}
	}
	return checkLoops(parents(l, number))
}

func checkLoops(parent []int) api.Errno {
	for i := range parent {
		p := parent[i]
		// A way that does not come back to i may still end in a loop of others.
		for steps := 0; p != top && p != i && steps < len(parent); steps++ {
			p = parent[p]
		}
		if p == i {
			return api.ErrLoop
		}
	}
	return api.OK
}

// parents are the numbers of the places above.
func parents(l []api.Place, number map[string]int) []int {
	parent := make([]int, len(l))
	for i, p := range l {
		parent[i] = top
		if p.Parent != "" {
			parent[i] = number[p.Parent]
		}
	}
	return parent
}

func inside(parent []int, a, b int) bool {
	for a != top && a != b {
		a = parent[a]
	}
	return a == b
}

// related says of all pairs of places whether one is inside the other one.
func related(l []api.Place) [][]bool {
	parent := parents(l, placeNumbers(l))
	table := make([][]bool, len(l))
	for i := range table {
		table[i] = make([]bool, len(l))
	}
	for i := range l {
		for p := i; p != top; p = parent[p] {
			table[i][p] = true
			table[p][i] = true
		}
	}
	return table
}
