package calibrate

import (
	"cmp"
	"math"
	"slices"

	"rebuttal/api"
	"rebuttal/exact"
)

// Strongest orders papers by the strengths of ways.
func Strongest(l []api.Mark) ([]string, api.Errno) {
	t, e := newTable(l)
	if e != api.OK {
		return nil, e
	}
	if len(t.papers) > api.MaxStrong {
		return nil, api.ErrLarge
	}
	strength := t.strengths()
	worths := make([]worth, len(t.papers))
	for a := range t.papers {
		stronger := 0
		for b := range t.papers {
			if strength[a][b] > strength[b][a] {
				stronger++
			}
		}
		worths[a] = worth{exact.Whole(stronger)}
	}
	return t.sorted(worths), api.OK
}

// Against is how much contradicts an order.
func Against(l []api.Mark, order []string) (int, api.Errno) {
	t, e := newTable(l)
	if e != api.OK {
		return 0, e
	}
	place := make([]int, len(t.papers)) // from 1 on
	for i, paper := range order {
		p, e := t.marked(paper)
		if e != api.OK {
			return 0, e
		}
		if place[p] > 0 {
			return 0, api.ErrTwice
		}
		place[p] = i + 1
	}
	if len(order) < len(t.papers) {
		return 0, api.ErrForm
	}
	contradictions := 0
	for _, scores := range t.by {
		l := slices.Clone(scores)
		slices.SortFunc(l, func(a, b score) int { return cmp.Compare(place[a.at], place[b.at]) })
		contradictions += rises(l)
	}
	return contradictions, api.OK
}

// Least is the order with the least contradictions.
func Least(l []api.Mark) ([]string, int, api.Errno) {
	t, e := newTable(l)
	if e != api.OK {
		return nil, 0, e
	}
	if len(t.papers) > api.MaxLeast {
		return nil, 0, api.ErrLarge
	}
	order, least := t.least()
	return pick(t.papers, order), least, api.OK
}

// strengths are the greatest ones of the ways from each paper to each other one.
func (t *table) strengths() [][]int {
	size := len(t.papers)
	l := make([][]int, size)
	for a := range size {
		l[a] = make([]int, size)
		for b := range size {
			if wins := t.wins(a, b); wins > t.wins(b, a) {
				l[a][b] = wins
			}
		}
	}
	// After each turn, the ways that go through papers up to this one are known.
	for through := range size {
		for a := range size {
			for b := range size {
				l[a][b] = max(l[a][b], min(l[a][through], l[through][b]))
			}
		}
	}
	return l
}

// rises is how many pairs of scores there are of which the later one is greater.
func rises(l []score) int {
	rises := 0
	var before [api.MaxScore + 1]int
	for _, s := range l {
		for _, many := range before[:s.score] {
			rises += many
		}
		before[s.score]++
	}
	return rises
}

// least is the first one of the orders with the least contradictions, and how many these are. Sets of papers are bits of numbers; fewest are the contradictions among the papers of a set, whatever is before them.
func (t *table) least() (order []int, contradictions int) {
	size := len(t.papers)
	fewest := make([]int, 1<<size)
	first := make([]int, 1<<size)
	for set := 1; set < len(fewest); set++ {
		fewest[set] = math.MaxInt
		for p := range size {
			if set>>p&1 == 0 {
				continue
			}
			n := fewest[set&^(1<<p)] + t.winsOf(set, p)
			if n < fewest[set] {
				fewest[set], first[set] = n, p
			}
		}
	}
	for set := len(fewest) - 1; set > 0; set &^= 1 << first[set] {
		order = append(order, first[set])
	}
	return order, fewest[len(fewest)-1]
}

// winsOf are those of all papers of a set against one.
func (t *table) winsOf(set, p int) int {
	wins := 0
	for q := range t.papers {
		if set>>q&1 == 1 {
			wins += t.wins(q, p)
		}
	}
	return wins
}
