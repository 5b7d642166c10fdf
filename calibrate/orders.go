package calibrate

import (
	"cmp"
	"slices"

	"rebuttal/api"
	"rebuttal/exact"
	"rebuttal/marks"
)

// orderRounds is how many rounds of Balanced an order takes.
const orderRounds = 20

// Wins is how many persons gave a paper more than another one.
func Wins(l []api.Mark, a, b string) (int, api.Errno) {
	t, e := newTable(l)
	if e != api.OK {
		return 0, e
	}
	p, e := t.marked(a)
	if e != api.OK {
		return 0, e
	}
	q, e := t.marked(b)
	if e != api.OK {
		return 0, e
	}
	if p == q {
		return 0, api.ErrTwice
	}
	return t.wins(p, q), api.OK
}

// Points are the points of all papers.
func Points(l []api.Mark) ([]api.Level, api.Errno) {
	t, e := newTable(l)
	if e != api.OK {
		return nil, e
	}
	var levels []int
	for p := range t.papers {
		points, _ := t.points(p, nobody)
		levels = append(levels, points)
	}
	return leveled(t.papers, levels), api.OK
}

// Order are all papers, the best first.
func Order(l []api.Mark, how int) ([]string, api.Errno) {
	t, e := newTable(l)
	if e != api.OK {
		return nil, e
	}
	worths := t.way(how)
	if worths == nil {
		return nil, api.ErrKind
	}
	return t.sorted(worths(nobody)), api.OK
}

// Range is the best and the worst place of a paper.
func Range(l []api.Mark, paper string, how int) (best, worst int, e api.Errno) {
	t, e := newTable(l)
	if e != api.OK {
		return 0, 0, e
	}
	p, e := t.marked(paper)
	if e != api.OK {
		return 0, 0, e
	}
	worths := t.way(how)
	if worths == nil {
		return 0, 0, api.ErrKind
	}
	best, worst = len(t.papers), 1
	for without := nobody; without < len(t.people); without++ {
		if !t.left(p, without) {
			continue
		}
		place := t.place(p, without, worths(without))
		best, worst = min(best, place), max(worst, place)
	}
	return best, worst, api.OK
}

// worth is what decides on the place of a paper: the greatest first; of the same ones what comes next.
type worth []api.Fraction

// way is how papers are ordered: a function from a person, whose marks are left out, to the worths of papers; those of papers without a mark then say nothing. There is none for a way that is not known.
func (t *table) way(how int) func(without int) []worth {
	switch how {
	case api.RankMean:
		return t.each(func(p, without int) worth { return worth{marks.Mean(t.scores(p, without))} })
	case api.RankMedian:
		return t.each(func(p, without int) worth {
			scores := t.scores(p, without)
			return worth{exact.Whole(median(scores)), marks.Mean(scores)}
		})
	case api.RankPoints:
		return t.each(func(p, without int) worth {
			points, chances := t.points(p, without)
			return worth{exact.Lowest(points, max(chances, 1))}
		})
	case api.RankWins:
		return t.each(func(p, without int) worth { return worth{exact.Whole(t.standing(p, without))} })
	case api.RankBalanced:
		return func(without int) []worth {
			var l []worth
			levels, _ := t.balanced(orderRounds, without)
			for _, level := range levels {
				l = append(l, worth{exact.Whole(level)})
			}
			return l
		}
	}
	return nil
}

// each makes a way from what a paper alone is worth. This changes only for the papers that a person marked if their marks are left out.
func (t *table) each(value func(p, without int) worth) func(without int) []worth {
	var all []worth
	for p := range t.papers {
		all = append(all, value(p, nobody))
	}
	return func(without int) []worth {
		if without == nobody {
			return all
		}
		l := slices.Clone(all)
		for _, s := range t.by[without] {
			if t.left(s.at, without) {
				l[s.at] = value(s.at, without)
			}
		}
		return l
	}
}

// left reports whether a paper has a mark of another person.
func (t *table) left(p, without int) bool {
	return slices.ContainsFunc(t.of[p], func(s score) bool { return s.at != without })
}

// sorted are the papers by their worths.
func (t *table) sorted(worths []worth) []string {
	var order []int
	for p := range t.papers {
		order = append(order, p)
	}
	slices.SortFunc(order, func(p, q int) int { return compare(worths, p, q) })
	return pick(t.papers, order)
}

// place is where a paper is among those that have a mark of another person than one.
func (t *table) place(p, without int, worths []worth) int {
	place := 1
	for q := range t.papers {
		if compare(worths, q, p) < 0 && t.left(q, without) {
			place++
		}
	}
	return place
}

// compare is below 0 if the first paper is better.
func compare(worths []worth, p, q int) int {
	return cmp.Or(slices.CompareFunc(worths[q], worths[p], exact.Compare), cmp.Compare(p, q))
}

// wins is how many persons gave a paper more than another one.
func (t *table) wins(p, q int) int {
	wins := 0
	for _, x := range t.of[p] {
		for _, y := range t.of[q] {
			if x.at == y.at && x.score > y.score {
				wins++
			}
		}
	}
	return wins
}

// points are those of a paper without the marks of one person, and for how many persons and other papers it could get some.
func (t *table) points(p, without int) (points, chances int) {
	for _, s := range t.of[p] {
		if s.at == without {
			continue
		}
		for _, other := range t.by[s.at] {
			if other.at != p {
				points += against(s.score, other.score)
				chances++
			}
		}
	}
	return points, chances
}

// standing is the number of papers against which a paper has more wins than they against it, minus the number of those that have more against it.
func (t *table) standing(p, without int) int {
	lead := make([]int, len(t.papers))
	for _, s := range t.of[p] {
		if s.at == without {
			continue
		}
		for _, other := range t.by[s.at] {
			lead[other.at] += cmp.Compare(s.score, other.score)
		}
	}
	standing := 0
	for _, n := range lead {
		standing += cmp.Compare(n, 0)
	}
	return standing
}
