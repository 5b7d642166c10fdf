package review

import (
	"cmp"
	"maps"
	"slices"

	"rebuttal/api"
	"rebuttal/syntax"
)

// Stands is how far reviews are.
func Stands(s api.Setup, l []api.Review, at int) ([]api.Stand, api.Errno) {
	b, e := bookAt(s, l, at)
	if e != api.OK {
		return nil, e
	}
	return b.stands(at), api.OK
}

// Nudges are the pairs that are to be reminded.
func Nudges(s api.Setup, l []api.Review, days []int, at int) ([]api.Pair, api.Errno) {
	b, e := bookAt(s, l, at)
	if e != api.OK {
		return nil, e
	}
	if e := checkDays(days); e != api.OK {
		return nil, e
	}
	if !slices.ContainsFunc(days, func(day int) bool { return at == b.Due-day*api.DayLong }) {
		return nil, api.OK
	}
	var reminded []api.Pair
	for _, x := range b.stands(at) {
		if x.State != api.StandDone {
			reminded = append(reminded, x.Pair)
		}
	}
	return reminded, api.OK
}

// Full are the papers that have enough reviews.
func Full(s api.Setup, l []api.Review, many, at int) ([]string, api.Errno) {
	b, e := newBook(s, l)
	if e != api.OK {
		return nil, e
	}
	if many < 0 || many > api.MaxEach {
		return nil, api.ErrArg
	}
	if e := syntax.CheckMoment(at); e != api.OK {
		return nil, e
	}
	count := map[string]int{}
	for p := range b.valid(at) {
		count[p.Paper]++
	}
	var full []string
	for _, p := range b.Papers {
		if count[p.Id] >= many {
			full = append(full, p.Id)
		}
	}
	return full, api.OK
}

// Marks are the scores of reviews.
func Marks(s api.Setup, l []api.Review, question string, at int) ([]api.Mark, api.Errno) {
	b, e := newBook(s, l)
	if e != api.OK {
		return nil, e
	}
	q, e := b.asked(question, api.QuestScore)
	if e != api.OK {
		return nil, e
	}
	if q.Most > api.MaxScore {
		return nil, api.ErrType
	}
	if e := syntax.CheckMoment(at); e != api.OK {
		return nil, e
	}
	valid := b.valid(at)
	var marks []api.Mark
	for _, p := range b.Pairs {
		if a, there := answerTo(valid[p].Answers, question); there {
			marks = append(marks, api.Mark{Pair: p, Score: a.Number})
		}
	}
	return marks, api.OK
}

// Options is how many reviews of a paper have each option.
func Options(s api.Setup, l []api.Review, question, paper string, at int) ([]int, api.Errno) {
	b, e := newBook(s, l)
	if e != api.OK {
		return nil, e
	}
	q, e := b.asked(question, api.QuestChoice)
	if e != api.OK {
		return nil, e
	}
	if e := cmp.Or(b.checkPaper(paper), syntax.CheckMoment(at)); e != api.OK {
		return nil, e
	}
	count := map[string]int{}
	for p, r := range b.valid(at) {
		if a, there := answerTo(r.Answers, question); there && p.Paper == paper {
			count[a.Option]++
		}
	}
	var counts []int
	for _, option := range q.Options {
		counts = append(counts, count[option])
	}
	return counts, api.OK
}

// Helpers is how many papers somebody reviewed for others.
func Helpers(s api.Setup, l []api.Review, at int) ([]api.Help, api.Errno) {
	b, e := bookAt(s, l, at)
	if e != api.OK {
		return nil, e
	}
	helped := map[api.Pair]bool{}
	for _, r := range b.valid(at) {
		if r.By != "" {
			helped[api.Pair{Paper: r.Paper, Person: r.By}] = true
		}
	}
	papers := map[string]int{}
	for p := range helped {
		papers[p.Person]++
	}
	var helps []api.Help
	for _, by := range slices.Sorted(maps.Keys(papers)) {
		helps = append(helps, api.Help{By: by, Papers: papers[by]})
	}
	return helps, api.OK
}

// Wrong are the reviews that somebody wrote who must not.
func Wrong(s api.Setup, l []api.Review) ([]int, api.Errno) {
	b, e := newBook(s, l)
	if e != api.OK {
		return nil, e
	}
	var wrong []int
	for _, r := range l {
		if b.excluded(api.Pair{Paper: r.Paper, Person: r.By}) {
			wrong = append(wrong, r.No)
		}
	}
	return wrong, api.OK
}

// checkDays validates for how many days before Due pairs are to be reminded.
func checkDays(l []int) api.Errno {
	return syntax.Each(l, api.MaxNudges, func(day int) api.Errno {
		if day < -api.MaxDay || day > api.MaxDay {
			return api.ErrArg
		}
		return api.OK
	})
}

func (b *book) stands(at int) []api.Stand {
	valid, latest := b.valid(at), b.latest(at)
	var stands []api.Stand
	for _, p := range b.Pairs {
		_, done := valid[p]
		_, begun := latest[p]
		state := api.StandNone
		switch {
		case done:
			state = api.StandDone
		case at >= b.Due:
			state = api.StandLate
		case begun:
			state = api.StandDraft
		}
		stands = append(stands, api.Stand{Pair: p, State: state})
	}
	return stands
}

// asked is a question of a kind. ErrNone if there is no such question; ErrType if it is of another kind.
func (s *setup) asked(key string, kind int) (api.Question, api.Errno) {
	q, known := s.sheet.question(key)
	if !known {
		return q, api.ErrNone
	}
	if q.Kind != kind {
		return q, api.ErrType
	}
	return q, api.OK
}
