package people

import (
	"rebuttal/api"
	"rebuttal/index"
	"rebuttal/syntax"
)

// Inside reports whether a place is another one, or a part of it.
func Inside(l []api.Place, a, b string) (bool, api.Errno) {
	number, parent, e := linked(l)
	if e != api.OK {
		return false, e
	}
	i, j, e := index.Two(number, a, b)
	if e != api.OK {
		return false, e
	}
	return index.Inside(parent, i, j), api.OK
}

// Above are the places above a place, its parent first.
func Above(l []api.Place, key string) ([]string, api.Errno) {
	number, parent, e := linked(l)
	if e != api.OK {
		return nil, e
	}
	i, known := number[key]
	if !known {
		return nil, api.ErrNone
	}
	var above []string
	for _, p := range index.Path(parent, i)[1:] {
		above = append(above, l[p].Key)
	}
	return above, api.OK
}

// linked are the numbers of places, and those of their parents, after the errors of the places.
func linked(l []api.Place) (map[string]int, []int, api.Errno) {
	if e := checkPlaces(l); e != api.OK {
		return nil, nil, e
	}
	number := placeNumbers(l)
	parent, e := index.Parents(l, number, func(p api.Place) string { return p.Parent })
	return number, parent, e
}

// checkPlaces looks at each place by itself.
func checkPlaces(l []api.Place) api.Errno {
	return syntax.RisingBy(l, api.MaxPlaces, placeKey, func(p api.Place) api.Errno {
		if p.Parent != "" && !syntax.Key(p.Parent) {
			return api.ErrName
		}
		return api.OK
	})
}

// related says of all pairs of places, which are right, whether one is inside the other one.
func related(l []api.Place) [][]bool {
	_, parent, _ := linked(l)
	table := make([][]bool, len(l))
	for i := range table {
		table[i] = make([]bool, len(l))
	}
	for i := range l {
		for _, p := range index.Path(parent, i) {
			table[i][p] = true
			table[p][i] = true
		}
	}
	return table
}
