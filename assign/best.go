package assign

import (
	"slices"
	"sort"

	"rebuttal/api"
	"rebuttal/index"
	"rebuttal/pairs"
)

// Best is a best assignment.
func Best(t api.Task) ([]api.Pair, api.Errno) {
	b, e := newTable(t)
	if e != api.OK {
		return nil, e
	}
	return b.settled()
}

// Fair is an assignment whose least worth is the greatest one.
func Fair(t api.Task) ([]api.Pair, int, api.Errno) {
	b, e := newTable(t)
	if e != api.OK {
		return nil, 0, e
	}
	levels := b.levels()
	possible := sort.Search(len(levels), func(k int) bool {
		_, ok := b.from(levels[k]).best()
		return !ok
	})
	if possible == 0 {
		return nil, 0, api.ErrFull
	}
	m := levels[possible-1]
	l, e := b.from(m).settled()
	return l, m, e
}

// Repair is an assignment in which some persons read nothing.
func Repair(t api.Task, l []api.Pair, gone []string) ([]api.Pair, int, api.Errno) {
	b, e := listed(t, l)
	if e != api.OK {
		return nil, 0, e
	}
	if e := index.Distinct(b.person, gone); e != api.OK {
		return nil, 0, e
	}
	best, e := b.without(gone).keeping(l).settled()
	if e != api.OK {
		return nil, 0, e
	}
	return best, len(best) - len(pairs.Without(best, l)), api.OK
}

// settled is the least one of the best assignments.
func (b *table) settled() ([]api.Pair, api.Errno) {
	s, ok := b.best()
	if !ok {
		return nil, api.ErrFull
	}
	s.settle()
	return s.list(&s.in), api.OK
}

// levels are the numbers that the least worth of an assignment can be, rising.
func (b *table) levels() []int {
	l := []int{api.MaxWorth}
	for i := range b.needs {
		l = append(l, b.worth[i][:len(b.loads)]...)
	}
	slices.Sort(l)
	return slices.Compact(l)
}

// from is the table with all pairs barred that are worth less than so much.
func (b *table) from(least int) *table {
	c := *b
	for i := range c.needs {
		for j := range c.loads {
			if c.worth[i][j] < least {
				c.barred[i][j] = true
			}
		}
	}
	return &c
}

// without is the table with some persons who can read nothing, and need not.
func (b *table) without(gone []string) *table {
	c := *b
	c.loads = slices.Clone(b.loads)
	for _, key := range gone {
		j := b.person[key]
		c.loads[j].Least, c.loads[j].Most = 0, 0
		for i := range c.needs {
			c.locked[i][j] = false
		}
	}
	return &c
}

// keeping is the table with pairs that are worth more than all others.
func (b *table) keeping(l []api.Pair) *table {
	c := *b
	keep := b.spots(l)
	for _, x := range b.marked(&keep) {
		c.worth[x.paper][x.person] += kept
	}
	return &c
}
