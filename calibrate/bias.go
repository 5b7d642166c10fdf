package calibrate

import (
	"slices"

	"rebuttal/api"
	"rebuttal/exact"
)

const (
	million   = 1_000_000 // levels of a score
	maxRounds = 100
)

// Parts are the parts of marks that hang together.
func Parts(l []api.Mark) ([]api.Part, api.Errno) {
	t, e := newTable(l)
	if e != api.OK {
		return nil, e
	}
	var parts []api.Part
	for _, x := range t.parts() {
		parts = append(parts, api.Part{Papers: pick(t.papers, x.papers), People: pick(t.people, x.people)})
	}
	return parts, api.OK
}

// Unbiased finds worths and biases with the least squares.
func Unbiased(l []api.Mark) (worths, biases []api.Valued, e api.Errno) {
	t, e := newTable(l)
	if e != api.OK {
		return nil, nil, e
	}
	parts := t.parts()
	for _, x := range parts {
		if len(x.papers) > api.MaxPart || len(x.people) > api.MaxPart {
			return nil, nil, api.ErrLarge
		}
	}
	ofPapers, ofPeople := make([]api.Fraction, len(t.papers)), make([]api.Fraction, len(t.people))
	for _, x := range parts {
		solved := solve(t.equations(x))
		for i, p := range x.papers {
			ofPapers[p] = solved[i]
		}
		for i, j := range x.people {
			ofPeople[j] = solved[len(x.papers)+i]
		}
	}
	return valued(t.papers, ofPapers), valued(t.people, ofPeople), api.OK
}

// Balanced works out worths and biases in millionths.
func Balanced(l []api.Mark, rounds int) (worths, biases []api.Level, e api.Errno) {
	t, e := newTable(l)
	if e != api.OK {
		return nil, nil, e
	}
	if rounds < 1 || rounds > maxRounds {
		return nil, nil, api.ErrArg
	}
	ofPapers, ofPeople := t.balanced(rounds, nobody)
	return leveled(t.papers, ofPapers), leveled(t.people, ofPeople), api.OK
}

// part is the numbers of papers and persons that hang together.
type part struct{ papers, people []int }

// parts are sorted by their first papers.
func (t *table) parts() []part {
	seenPapers, seenPeople := make([]bool, len(t.papers)), make([]bool, len(t.people))
	var x part
	var take func(int)
	take = func(paper int) {
		if seenPapers[paper] {
			return
		}
		seenPapers[paper] = true
		x.papers = append(x.papers, paper)
		for _, s := range t.of[paper] {
			if seenPeople[s.at] {
				continue
			}
			seenPeople[s.at] = true
			x.people = append(x.people, s.at)
			for _, other := range t.by[s.at] {
				take(other.at)
			}
		}
	}
	var parts []part
	for p := range t.papers {
		if seenPapers[p] {
			continue
		}
		x = part{}
		take(p)
		slices.Sort(x.papers)
		slices.Sort(x.people)
		parts = append(parts, x)
	}
	return parts
}

// equations are those of which the worths and then the biases of a part are the solution, each one with its right side at its end. The sum of the squares is the least where, for each paper and each person, the differences of its marks have the sum 0. The equation of the last person follows from all others, so that the sum of the biases takes its place.
func (t *table) equations(x part) [][]int {
	papers, size := len(x.papers), len(x.papers)+len(x.people)
	equations := make([][]int, size)
	for i := range equations {
		equations[i] = make([]int, size+1)
	}
	enter := func(row, other, value int) {
		equations[row][row]++
		equations[row][other]++
		equations[row][size] += value
	}
	for i, p := range x.papers {
		for _, s := range t.of[p] {
			j := papers + slices.Index(x.people, s.at)
			enter(i, j, s.score)
			enter(j, i, s.score)
		}
	}
	last := equations[size-1]
	clear(last)
	for j := papers; j < size; j++ {
		last[j] = 1
	}
	return equations
}

// solve eliminates without fractions: each number is a determinant of some of the equations, which the pivot before divides (Bareiss' way). No pivot is 0: all but the last one are determinants of a matrix that is positive definite, and so is, with the sum of the biases, the last one above 0.
func solve(l [][]int) []api.Fraction {
	before := 1
	for k, row := range l {
		pivot := row[k]
		for i, other := range l {
			if i == k {
				continue
			}
			times := other[k]
			for c := range other {
				other[c] = (pivot*other[c] - times*row[c]) / before
			}
		}
		before = pivot
	}
	var solved []api.Fraction
	for i, row := range l {
		solved = append(solved, exact.Lowest(row[len(l)], row[i]))
	}
	return solved
}

// balanced are the worths of all papers and the biases of all persons without the marks of one person.
func (t *table) balanced(rounds, without int) (worths, biases []int) {
	worths, biases = make([]int, len(t.papers)), make([]int, len(t.people))
	for range rounds {
		for p, l := range t.of {
			worths[p] = rest(l, biases, without)
		}
		for j, l := range t.by {
			if j != without {
				biases[j] = rest(l, worths, nobody)
			}
		}
	}
	return worths, biases
}

// rest is the mean of what scores are above something of the others, rounded down; 0 without scores.
func rest(l []score, others []int, without int) int {
	many, sum := 0, 0
	for _, s := range l {
		if s.at != without {
			many++
			sum += million*s.score - others[s.at]
		}
	}
	if many == 0 {
		return 0
	}
	return floor(sum, many)
}

// floor divides by a number above 0, and rounds down.
func floor(a, b int) int {
	q := a / b
	if q*b > a {
		q--
	}
	return q
}

func pick(keys []string, numbers []int) []string {
	var l []string
	for _, i := range numbers {
		l = append(l, keys[i])
	}
	return l
}
