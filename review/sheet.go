// Package review keeps reviews, and says who sees them.
package review

import (
	"slices"

	"rebuttal/api"
	"rebuttal/index"
	"rebuttal/syntax"
)

// maxScore is the greatest Most of a question for a score.
const maxScore = 100

// CheckSheet validates questions.
func CheckSheet(l []api.Question) api.Errno {
	_, e := newSheet(l)
	return e
}

// Missing are the questions that need an answer.
func Missing(sheet []api.Question, l []api.Answer) ([]string, api.Errno) {
	s, e := newSheet(sheet)
	if e != api.OK {
		return nil, e
	}
	if e := s.check(l); e != api.OK {
		return nil, e
	}
	return s.missing(l), api.OK
}

// Differ are the questions to which the answers differ.
func Differ(sheet []api.Question, a, b []api.Answer) ([]string, api.Errno) {
	s, e := newSheet(sheet)
	if e != api.OK {
		return nil, e
	}
	for _, l := range [][]api.Answer{a, b} {
		if e := s.check(l); e != api.OK {
			return nil, e
		}
	}
	return s.keys(func(q api.Question) bool {
		// Without an answer there is the zero value, which names no question.
		x, _ := answerTo(a, q.Key)
		y, _ := answerTo(b, q.Key)
		return x != y
	}), api.OK
}

// sheet is questions, and the place of each key among them.
type sheet struct {
	questions []api.Question
	place     map[string]int
}

// newSheet has the errors of CheckSheet.
func newSheet(l []api.Question) (*sheet, api.Errno) {
	if len(l) == 0 {
		return nil, api.ErrForm
	}
	key := func(q api.Question) string { return q.Key }
	if e := syntax.DistinctBy(l, api.MaxQuestions, key, checkKind); e != api.OK {
		return nil, e
	}
	return &sheet{questions: l, place: index.Of(l, key)}, api.OK
}

// checkKind validates what belongs to the kind of a question.
func checkKind(q api.Question) api.Errno {
	switch q.Kind {
	case api.QuestScore:
		return checkMost(q, maxScore)
	case api.QuestWords:
		return checkMost(q, api.MaxWords)
	case api.QuestChoice:
		if q.Most != 0 || len(q.Options) == 0 {
			return api.ErrForm
		}
		return syntax.Distinct(q.Options, api.MaxOptions)
	}
	return api.ErrKind
}

// checkMost validates a question without options, whose Most is at least 1.
func checkMost(q api.Question, greatest int) api.Errno {
	if q.Most < 1 || q.Most > greatest {
		return api.ErrArg
	}
	if len(q.Options) > 0 {
		return api.ErrForm
	}
	return api.OK
}

// check validates answers.
func (s *sheet) check(l []api.Answer) api.Errno {
	if len(l) > api.MaxQuestions {
		return api.ErrLarge
	}
	last := -1
	for _, a := range l {
		place, known := s.place[a.Question]
		if !known {
			return api.ErrNone
		}
		if place <= last {
			return api.ErrOrder
		}
		if e := checkAnswer(s.questions[place], a); e != api.OK {
			return e
		}
		last = place
	}
	return api.OK
}

// checkAnswer validates an answer to a question.
func checkAnswer(q api.Question, a api.Answer) api.Errno {
	used := api.Answer{Question: a.Question}
	switch q.Kind {
	case api.QuestScore:
		used.Number = a.Number
	case api.QuestChoice:
		used.Option = a.Option
	case api.QuestWords:
		used.Words = a.Words
	}
	switch {
	case a != used:
		return api.ErrForm
	case q.Kind == api.QuestScore && (a.Number < 0 || a.Number > q.Most):
		return api.ErrArg
	case q.Kind == api.QuestChoice && !slices.Contains(q.Options, a.Option):
		return api.ErrNone
	case q.Kind == api.QuestWords && (a.Words == "" || !syntax.Text(a.Words)):
		return api.ErrForm
	case q.Kind == api.QuestWords && len(a.Words) > q.Most:
		return api.ErrLarge
	}
	return api.OK
}

// keys are those of the questions that are wanted, in order.
func (s *sheet) keys(wanted func(api.Question) bool) []string {
	var keys []string
	for _, q := range s.questions {
		if wanted(q) {
			keys = append(keys, q.Key)
		}
	}
	return keys
}

// missing are the keys of the questions that need an answer, and have none.
func (s *sheet) missing(l []api.Answer) []string {
	return s.keys(func(q api.Question) bool {
		_, there := answerTo(l, q.Key)
		return q.Needed && !there
	})
}

// question is the one with a key, and whether there is one.
func (s *sheet) question(key string) (api.Question, bool) {
	place, known := s.place[key]
	if !known {
		return api.Question{}, false
	}
	return s.questions[place], true
}

// answerTo is the answer to a question, and whether there is one.
func answerTo(l []api.Answer, question string) (api.Answer, bool) {
	i := slices.IndexFunc(l, func(a api.Answer) bool { return a.Question == question })
	if i < 0 {
		return api.Answer{}, false
	}
	return l[i], true
}
