package calibrate

import (
	"iter"

	"rebuttal/api"
	"rebuttal/exact"
	"rebuttal/marks"
)

// Strict is how kind people are.
func Strict(l []api.Mark) ([]api.Valued, api.Errno) {
	t, e := newTable(l)
	if e != api.OK {
		return nil, e
	}
	kind, many := make([]int, len(t.people)), make([]int, len(t.people))
	for m, gap := range t.gaps(l) {
		kind[t.person[m.Person]] += gap
		many[t.person[m.Person]]++
	}
	var strict []api.Valued
	for j, person := range t.people {
		if many[j] > 0 {
			strict = append(strict, api.Valued{Key: person, Value: exact.Lowest(kind[j], many[j]*whole)})
		}
	}
	return strict, api.OK
}

// Outliers are the marks that differ much from others.
func Outliers(l []api.Mark, least int) ([]api.Mark, api.Errno) {
	t, e := newTable(l)
	if e != api.OK {
		return nil, e
	}
	if least < 1 || least > api.MaxScore {
		return nil, api.ErrArg
	}
	var outliers []api.Mark
	for m, gap := range t.gaps(l) {
		if max(gap, -gap) >= least*whole {
			outliers = append(outliers, m)
		}
	}
	return outliers, api.OK
}

// Rank is where a paper is among those that a person marked.
func Rank(l []api.Mark, person, paper string) (api.Fraction, api.Errno) {
	if e := CheckMarks(l); e != api.OK {
		return api.Fraction{}, e
	}
	scores := scoresBy(l, person)
	own, there := scores[paper]
	if !there {
		return api.Fraction{}, api.ErrNone
	}
	if len(scores) == 1 {
		return api.Fraction{Num: 1, Den: 2}, api.OK
	}
	points := -1 // what the paper would get against itself
	for _, s := range scores {
		points += against(own, s)
	}
	return exact.Lowest(points, 2*(len(scores)-1)), api.OK
}

// against is 2 for a score that is greater than another one, and 1 for the same one.
func against(own, other int) int {
	switch {
	case own > other:
		return 2
	case own == other:
		return 1
	}
	return 0
}

// gaps are the marks that have others, and how much greater than the mean of the others' scores theirs are, in parts of whole.
func (t *table) gaps(l []api.Mark) iter.Seq2[api.Mark, int] {
	return func(yield func(api.Mark, int) bool) {
		for _, m := range l {
			scores := t.scores(t.paper[m.Paper], nobody)
			others := len(scores) - 1
			if others == 0 {
				continue
			}
			gap := whole*m.Score - whole/others*(marks.Sum(scores)-m.Score)
			if !yield(m, gap) {
				return
			}
		}
	}
}
