package assign

import (
	"rebuttal/api"
	"rebuttal/pairs"
)

// Lacks is what is wrong with an assignment.
func Lacks(t api.Task, l []api.Pair) ([]api.Lack, api.Errno) {
	b, e := listed(t, l)
	if e != api.OK {
		return nil, e
	}
	return b.lacks(l), api.OK
}

// Check validates an assignment.
func Check(t api.Task, l []api.Pair) api.Errno {
	_, e := newHolding(t, l)
	return e
}

// Sum is the sum of the worths of a right assignment.
func Sum(t api.Task, l []api.Pair) (int, api.Errno) {
	h, e := newHolding(t, l)
	if e != api.OK {
		return 0, e
	}
	return h.sum(), api.OK
}

// Least is the least worth of a pair of a right assignment.
func Least(t api.Task, l []api.Pair) (int, api.Errno) {
	h, e := newHolding(t, l)
	if e != api.OK {
		return 0, e
	}
	least := api.MaxWorth
	for _, x := range h.marked(&h.in) {
		least = min(least, h.worth[x.paper][x.person])
	}
	return least, api.OK
}

// Counts is how many papers each person reads.
func Counts(t api.Task, l []api.Pair) ([]int, api.Errno) {
	h, e := newHolding(t, l)
	if e != api.OK {
		return nil, e
	}
	counts := make([]int, len(h.loads))
	for _, x := range h.marked(&h.in) {
		counts[x.person]++
	}
	return counts, api.OK
}

// holding is an assignment of a table.
type holding struct {
	*table
	in spots
}

// newHolding has the errors of Check.
func newHolding(t api.Task, l []api.Pair) (*holding, api.Errno) {
	b, e := listed(t, l)
	if e != api.OK {
		return nil, e
	}
	if len(b.lacks(l)) > 0 {
		return nil, api.ErrRule
	}
	return &holding{table: b, in: b.spots(l)}, api.OK
}

func (h *holding) sum() int {
	sum := 0
	for _, x := range h.marked(&h.in) {
		sum += h.worth[x.paper][x.person]
	}
	return sum
}

func (b *table) lacks(l []api.Pair) []api.Lack {
	var lacks []api.Lack
	add := func(p api.Pair, what int) { lacks = append(lacks, api.Lack{Pair: p, What: what}) }
	var readers [api.MaxNeeds]int
	var papers [api.MaxLoads]int
	for _, p := range l {
		x, known := b.spot(p)
		if !known {
			add(p, api.LackUnknown)
			continue
		}
		if b.barred[x.paper][x.person] {
			add(p, api.LackBarred)
		}
		readers[x.paper]++
		papers[x.person]++
	}
	for _, p := range pairs.Without(b.must, l) {
		add(p, api.LackLocked)
	}
	for i, n := range b.needs {
		paper := api.Pair{Paper: n.Paper}
		if readers[i] < n.Readers {
			add(paper, api.LackFew)
		}
		if readers[i] > n.Readers {
			add(paper, api.LackMany)
		}
	}
	for j, n := range b.loads {
		person := api.Pair{Person: n.Person}
		if papers[j] < n.Least {
			add(person, api.LackIdle)
		}
		if papers[j] > n.Most {
			add(person, api.LackBusy)
		}
	}
	return lacks
}
