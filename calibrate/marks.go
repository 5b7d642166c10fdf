// Package calibrate makes scores comparable.
package calibrate

import (
	"slices"

	"rebuttal/api"
	"rebuttal/index"
	"rebuttal/marks"
)

// nobody is a number that no person has.
const nobody = -1

// CheckMarks validates marks.
func CheckMarks(l []api.Mark) api.Errno { return marks.Check(l, api.MaxPerPaper) }

// PapersOf are the papers of marks.
func PapersOf(l []api.Mark) ([]string, api.Errno) {
	t, e := newTable(l)
	if e != api.OK {
		return nil, e
	}
	return t.papers, api.OK
}

// PeopleOf are the persons of marks.
func PeopleOf(l []api.Mark) ([]string, api.Errno) {
	t, e := newTable(l)
	if e != api.OK {
		return nil, e
	}
	return t.people, api.OK
}

// Shift adds something to all scores of a person.
func Shift(l []api.Mark, person string, by int) ([]api.Mark, api.Errno) {
	if e := CheckMarks(l); e != api.OK {
		return nil, e
	}
	if !slices.ContainsFunc(l, func(m api.Mark) bool { return m.Person == person }) {
		return nil, api.ErrNone
	}
	shifted := slices.Clone(l)
	for i, m := range l {
		if m.Person != person {
			continue
		}
		if by < -m.Score || by > api.MaxScore-m.Score {
			return nil, api.ErrArg
		}
		shifted[i].Score += by
	}
	return shifted, api.OK
}

// score is what a mark says of its paper by a person, or of its person on a paper: at is the number of this other one.
type score struct{ at, score int }

// table is marks by papers and by persons, which have numbers in their order.
type table struct {
	papers, people []string
	paper, person  map[string]int
	of             [][]score // of each paper, by persons
	by             [][]score // by each person, on papers
}

// newTable has the errors of CheckMarks.
func newTable(l []api.Mark) (*table, api.Errno) {
	if e := CheckMarks(l); e != api.OK {
		return nil, e
	}
	t := &table{}
	t.papers, t.paper = numbered(l, func(m api.Mark) string { return m.Paper })
	t.people, t.person = numbered(l, func(m api.Mark) string { return m.Person })
	t.of, t.by = make([][]score, len(t.papers)), make([][]score, len(t.people))
	for _, m := range l {
		p, j := t.paper[m.Paper], t.person[m.Person]
		t.of[p] = append(t.of[p], score{j, m.Score})
		t.by[j] = append(t.by[j], score{p, m.Score})
	}
	return t, api.OK
}

// numbered are the keys of marks in order, each once, and their numbers.
func numbered(l []api.Mark, key func(api.Mark) string) ([]string, map[string]int) {
	var keys []string
	for _, m := range l {
		keys = append(keys, key(m))
	}
	slices.Sort(keys)
	keys = slices.Compact(keys)
	return keys, index.Of(keys, func(k string) string { return k })
}

// marked is the number of a paper that has a mark.
func (t *table) marked(paper string) (int, api.Errno) {
	p, known := t.paper[paper]
	if !known {
		return 0, api.ErrNone
	}
	return p, api.OK
}

// scores are those of a paper, without the one of a person.
func (t *table) scores(paper, without int) []int {
	var l []int
	for _, s := range t.of[paper] {
		if s.at != without {
			l = append(l, s.score)
		}
	}
	return l
}

// valued are keys with a value for each one.
func valued(keys []string, values []api.Fraction) []api.Valued {
	var l []api.Valued
	for i, key := range keys {
		l = append(l, api.Valued{Key: key, Value: values[i]})
	}
	return l
}

// leveled are keys with a level for each one.
func leveled(keys []string, levels []int) []api.Level {
	var l []api.Level
	for i, key := range keys {
		l = append(l, api.Level{Key: key, Level: levels[i]})
	}
	return l
}
