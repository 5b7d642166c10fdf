package calibrate

import (
	"slices"

	"rebuttal/api"
	"rebuttal/exact"
	"rebuttal/marks"
)

// whole is a number that 1 to MaxPerPaper - 1 divide: differences to the mean of others are whole numbers of its parts.
const whole = 27_720

// Mean is the mean of a paper's scores.
func Mean(l []api.Mark, paper string) (api.Fraction, api.Errno) {
	return ofPaper(l, paper, marks.Mean)
}

// Median is twice the median of a paper's scores.
func Median(l []api.Mark, paper string) (int, api.Errno) {
	return ofPaper(l, paper, median)
}

// Spread is the mean of the squares of the differences to the mean.
func Spread(l []api.Mark, paper string) (api.Fraction, api.Errno) {
	return ofPaper(l, paper, func(scores []int) api.Fraction {
		// Of all ordered pairs, the mean of the squares of the differences is twice the spread.
		return exact.Lowest(differences(scores), 2*len(scores)*len(scores))
	})
}

// Agreement is how much people agree.
func Agreement(l []api.Mark) (api.Fraction, api.Errno) {
	t, e := newTable(l)
	if e != api.OK {
		return api.Fraction{}, e
	}
	var within int
	var all []int
	for p := range t.papers {
		scores := t.scores(p, nobody)
		if len(scores) < 2 {
			continue
		}
		within += differences(scores) * (whole / (len(scores) - 1))
		all = append(all, scores...)
	}
	between := differences(all) * whole
	if between == 0 {
		return api.Fraction{Num: 1, Den: 1}, api.OK
	}
	return exact.Lowest(between-(len(all)-1)*within, between), api.OK
}

// Kappa is how much two persons agree.
func Kappa(l []api.Mark, a, b string) (api.Fraction, api.Errno) {
	if e := CheckMarks(l); e != api.OK {
		return api.Fraction{}, e
	}
	if a == b {
		return api.Fraction{}, api.ErrTwice
	}
	byA, byB := scoresBy(l, a), scoresBy(l, b)
	var n, same int
	var givenA, givenB [api.MaxScore + 1]int
	for paper, x := range byA {
		y, both := byB[paper]
		if !both {
			continue
		}
		n++
		if x == y {
			same++
		}
		givenA[x]++
		givenB[y]++
	}
	if n == 0 {
		return api.Fraction{}, api.ErrNone
	}
	expected := 0
	for k, many := range givenA {
		expected += many * givenB[k]
	}
	if n*n == expected {
		return api.Fraction{Num: 1, Den: 1}, api.OK
	}
	return exact.Lowest(n*same-expected, n*n-expected), api.OK
}

// Compare compares two fractions.
func Compare(a, b api.Fraction) (int, api.Errno) {
	if e := exact.Check(-api.MaxDen, a, b); e != api.OK {
		return 0, e
	}
	return exact.Compare(a, b), api.OK
}

// ofPaper is something of the scores of a paper. ErrNone if it has none.
func ofPaper[T any](l []api.Mark, paper string, measure func([]int) T) (T, api.Errno) {
	var none T
	t, e := newTable(l)
	if e != api.OK {
		return none, e
	}
	p, e := t.marked(paper)
	if e != api.OK {
		return none, e
	}
	return measure(t.scores(p, nobody)), api.OK
}

// median is twice the median.
func median(scores []int) int {
	l := slices.Sorted(slices.Values(scores))
	return l[(len(l)-1)/2] + l[len(l)/2]
}

// differences is the sum over all pairs of two different scores, each pair twice, of the square of the difference.
func differences(scores []int) int {
	squares := 0
	for _, s := range scores {
		squares += s * s
	}
	sum := marks.Sum(scores)
	return 2 * (len(scores)*squares - sum*sum)
}

// scoresBy are the scores that a person gives, by papers.
func scoresBy(l []api.Mark, person string) map[string]int {
	scores := map[string]int{}
	for _, m := range l {
		if m.Person == person {
			scores[m.Paper] = m.Score
		}
	}
	return scores
}
