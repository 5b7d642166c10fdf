// Package topic says who knows what, and who wants to read what.
package topic

import (
	"slices"

	"rebuttal/api"
	"rebuttal/exact"
	"rebuttal/index"
	"rebuttal/syntax"
)

// CheckForest validates a forest.
func CheckForest(l []api.Topic) api.Errno {
	_, e := newForest(l)
	return e
}

// Above is a topic and those above it.
func Above(l []api.Topic, key string) ([]string, api.Errno) {
	f, i, _, e := twoOf(l, key, key)
	if e != api.OK {
		return nil, e
	}
	var keys []string
	for _, p := range index.Path(f.parent, i) {
		keys = append(keys, l[p].Key)
	}
	return keys, api.OK
}

// Below is a topic and all below it.
func Below(l []api.Topic, key string) ([]string, api.Errno) {
	f, top, _, e := twoOf(l, key, key)
	if e != api.OK {
		return nil, e
	}
	var keys []string
	for i, t := range l {
		if index.Inside(f.parent, i, top) {
			keys = append(keys, t.Key)
		}
	}
	return keys, api.OK
}

// Meet is the deepest topic above two ones.
func Meet(l []api.Topic, a, b string) (string, api.Errno) {
	f, i, j, e := twoOf(l, a, b)
	if e != api.OK {
		return "", e
	}
	if m := f.meet(i, j); m != index.Top {
		return l[m].Key, api.OK
	}
	return "", api.OK
}

// Near is how near two topics are.
func Near(l []api.Topic, a, b string) (api.Fraction, api.Errno) {
	f, i, j, e := twoOf(l, a, b)
	if e != api.OK {
		return api.Fraction{}, e
	}
	return exact.Lowest(f.near(i, j), nearOne), api.OK
}

// nearOne is 1 as what near returns. It has all numbers up to 10 as divisors, and two depths have no greater sum.
const nearOne = 2_520

// forest is topics, with the numbers of those next above and the depths.
type forest struct {
	topics []api.Topic
	number map[string]int
	parent []int
	depth  []int
}

// newForest has the errors of CheckForest.
func newForest(l []api.Topic) (*forest, api.Errno) {
	if e := checkTopics(l); e != api.OK {
		return nil, e
	}
	number := index.Of(l, func(t api.Topic) string { return t.Key })
	parent, e := index.Parents(l, number, func(t api.Topic) string { return t.Above })
	if e != api.OK {
		return nil, e
	}
	f := &forest{topics: l, number: number, parent: parent}
	for i := range l {
		depth := len(index.Path(parent, i))
		if depth > api.MaxAbove+1 {
			return nil, api.ErrLarge
		}
		f.depth = append(f.depth, depth)
	}
	return f, api.OK
}

// checkTopics looks at each topic by itself.
func checkTopics(l []api.Topic) api.Errno {
	if len(l) > api.MaxTopics {
		return api.ErrLarge
	}
	last := ""
	for _, t := range l {
		if !syntax.Key(t.Key) || t.Above != "" && !syntax.Key(t.Above) {
			return api.ErrName
		}
		if t.Key <= last {
			return api.ErrOrder
		}
		last = t.Key
	}
	return api.OK
}

// twoOf is a forest and the numbers of two topics, after the errors of all.
func twoOf(l []api.Topic, a, b string) (*forest, int, int, api.Errno) {
	f, e := newForest(l)
	if e != api.OK {
		return nil, 0, 0, e
	}
	i, j, e := index.Two(f.number, a, b)
	if e != api.OK {
		return nil, 0, 0, e
	}
	return f, i, j, api.OK
}

func (f *forest) has(key string) bool {
	_, known := f.number[key]
	return known
}

// hasAll reports whether all of some topics are there.
func (f *forest) hasAll(keys []string) bool {
	return !slices.ContainsFunc(keys, func(key string) bool { return !f.has(key) })
}

// meet is index.Top if no topic is above both.
func (f *forest) meet(a, b int) int {
	for a != b {
		if f.depth[a] < f.depth[b] {
			a, b = b, a
		}
		a = f.parent[a]
		// The other one is not deeper, so it has none above it either.
		if a == index.Top {
			return index.Top
		}
	}
	return a
}

// near is a whole number, as parts of nearOne.
func (f *forest) near(a, b int) int {
	m := f.meet(a, b)
	if m == index.Top {
		return 0
	}
	return nearOne * 2 * f.depth[m] / (f.depth[a] + f.depth[b])
}
