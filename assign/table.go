// Package assign finds out who reads which papers.
package assign

import (
	"slices"

	"rebuttal/api"
	"rebuttal/index"
	"rebuttal/pairs"
	"rebuttal/syntax"
)

// CheckTask validates a task.
func CheckTask(t api.Task) api.Errno {
	_, e := newTable(t)
	return e
}

// table is a task by the numbers of its papers and persons.
type table struct {
	needs          []api.Need
	loads          []api.Load
	must           []api.Pair // those that are locked, in order
	paper, person  map[string]int
	worth          [api.MaxNeeds][api.MaxLoads]int
	barred, locked spots
}

// spots says of each paper and person whether something is so.
type spots [api.MaxNeeds][api.MaxLoads]bool

// spot is the numbers of a paper and a person.
type spot struct{ paper, person int }

// newTable has the errors of CheckTask.
func newTable(t api.Task) (*table, api.Errno) {
	if e := checkNeeds(t.Needs); e != api.OK {
		return nil, e
	}
	if e := checkLoads(t.Loads); e != api.OK {
		return nil, e
	}
	b := &table{needs: t.Needs, loads: t.Loads, must: t.Locked}
	b.paper = index.Of(t.Needs, paperOf)
	b.person = index.Of(t.Loads, personOf)
	if e := b.setWorths(t.Worths); e != api.OK {
		return nil, e
	}
	if e := checkBoth(t.Barred, t.Locked); e != api.OK {
		return nil, e
	}
	b.barred, b.locked = b.spots(t.Barred), b.spots(t.Locked)
	for _, p := range t.Locked {
		if _, known := b.spot(p); !known {
			return nil, api.ErrNone
		}
	}
	return b, api.OK
}

// listed is the table of a task, after the errors of the task and of a list of pairs.
func listed(t api.Task, l []api.Pair) (*table, api.Errno) {
	b, e := newTable(t)
	if e != api.OK {
		return nil, e
	}
	if e := pairs.Check(l); e != api.OK {
		return nil, e
	}
	return b, api.OK
}

func checkNeeds(l []api.Need) api.Errno {
	return syntax.RisingBy(l, api.MaxNeeds, paperOf, func(n api.Need) api.Errno {
		if n.Readers < 0 || n.Readers > api.MaxEach {
			return api.ErrArg
		}
		return api.OK
	})
}

func checkLoads(l []api.Load) api.Errno {
	return syntax.RisingBy(l, api.MaxLoads, personOf, func(n api.Load) api.Errno {
		if n.Least < 0 || n.Least > n.Most || n.Most > api.MaxNeeds {
			return api.ErrArg
		}
		return api.OK
	})
}

func paperOf(n api.Need) string { return n.Paper }

func personOf(l api.Load) string { return l.Person }

func (b *table) setWorths(l []api.Worth) api.Errno {
	if len(l) > api.MaxNeeds*api.MaxLoads {
		return api.ErrLarge
	}
	var last api.Pair
	for _, w := range l {
		x, known := b.spot(w.Pair)
		if !known {
			return api.ErrNone
		}
		if pairs.Compare(w.Pair, last) <= 0 {
			return api.ErrOrder
		}
		if w.Worth < -api.MaxWorth || w.Worth > api.MaxWorth {
			return api.ErrArg
		}
		b.worth[x.paper][x.person] = w.Worth
		last = w.Pair
	}
	return api.OK
}

// checkBoth validates the pairs that are barred, and those that are locked.
func checkBoth(barred, locked []api.Pair) api.Errno {
	if e := pairs.Check(barred); e != api.OK {
		return e
	}
	if e := pairs.Check(locked); e != api.OK {
		return e
	}
	if slices.ContainsFunc(locked, func(p api.Pair) bool { return pairs.Has(barred, p) }) {
		return api.ErrConflict
	}
	return api.OK
}

// spot is where a pair is, and whether the task has its paper and its person.
func (b *table) spot(p api.Pair) (spot, bool) {
	i, knownPaper := b.paper[p.Paper]
	j, knownPerson := b.person[p.Person]
	return spot{i, j}, knownPaper && knownPerson
}

// spots are those of the pairs of a list whose paper and person the task has.
func (b *table) spots(l []api.Pair) spots {
	var s spots
	for _, p := range l {
		if x, known := b.spot(p); known {
			s[x.paper][x.person] = true
		}
	}
	return s
}

func (b *table) pair(x spot) api.Pair {
	return api.Pair{Paper: b.needs[x.paper].Paper, Person: b.loads[x.person].Person}
}

// marked are the spots of which something is so, in order.
func (b *table) marked(s *spots) []spot {
	var l []spot
	for i := range b.needs {
		for j := range b.loads {
			if s[i][j] {
				l = append(l, spot{i, j})
			}
		}
	}
	return l
}

// list is an assignment as pairs.
func (b *table) list(in *spots) []api.Pair {
	var l []api.Pair
	for _, x := range b.marked(in) {
		l = append(l, b.pair(x))
	}
	return l
}
