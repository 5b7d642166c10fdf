package review_test

import (
	"math"
	"slices"
	"strings"
	"testing"

	"rebuttal/api"
	"rebuttal/review"
)

// P5.1: what is right with a sheet.
func TestCheckSheet(t *testing.T) {
	for _, l := range [][]api.Question{
		sheet(),
		{{Key: "a", Kind: api.QuestScore, Most: 1}},
		{{Key: "a", Kind: api.QuestScore, Most: 100, Needed: true, Secret: true}},
		{{Key: "a", Kind: api.QuestWords, Most: 1}, {Key: "b", Kind: api.QuestWords, Most: api.MaxWords}},
		{{Key: "b", Kind: api.QuestChoice, Options: []string{"b"}}, {Key: "a", Kind: api.QuestChoice, Options: []string{"b", "a"}}},
		{{Key: "a", Kind: api.QuestChoice, Options: keys(api.MaxOptions)}},
		scores(api.MaxQuestions),
	} {
		is(t, review.CheckSheet(l), api.OK)
	}
}

// scores are so many questions.
func scores(n int) []api.Question {
	var l []api.Question
	for _, key := range keys(n) {
		l = append(l, api.Question{Key: key, Kind: api.QuestScore, Most: 10})
	}
	return l
}

// P5.1: the errors of sheets, in order.
func TestCheckSheetErrors(t *testing.T) {
	first := func(change func(*api.Question)) func(*[]api.Question) {
		return func(l *[]api.Question) { change(&(*l)[0]) }
	}
	climb(t, nil, review.CheckSheet, []rung[[]api.Question]{
		{api.ErrForm, func(l *[]api.Question) { *l = make([]api.Question, api.MaxQuestions+1) }},
		{api.ErrLarge, func(l *[]api.Question) { *l = []api.Question{{}, {Key: "a"}, {Key: "A"}} }},
		{api.ErrName, first(func(q *api.Question) { q.Key = "a" })},
		{api.ErrKind, first(func(q *api.Question) { q.Kind = 4 })},
		{api.ErrKind, first(func(q *api.Question) { q.Kind = -1 })},
		{api.ErrKind, first(func(q *api.Question) { q.Kind, q.Options = api.QuestScore, make([]string, api.MaxOptions+1) })},
		{api.ErrArg, first(func(q *api.Question) { q.Most = 101 })},
		{api.ErrArg, first(func(q *api.Question) { q.Most = 100 })},
		{api.ErrForm, first(func(q *api.Question) { q.Kind, q.Most = api.QuestWords, 0 })},
		{api.ErrArg, first(func(q *api.Question) { q.Most = api.MaxWords + 1 })},
		{api.ErrArg, first(func(q *api.Question) { q.Most = api.MaxWords })},
		{api.ErrForm, first(func(q *api.Question) { q.Kind = api.QuestChoice })},
		{api.ErrForm, first(func(q *api.Question) { q.Most = -1 })},
		{api.ErrForm, first(func(q *api.Question) { q.Most = 0 })},
		{api.ErrLarge, first(func(q *api.Question) { q.Options = nil })},
		{api.ErrForm, first(func(q *api.Question) { q.Options = []string{"b", "b", ""} })},
		{api.ErrTwice, first(func(q *api.Question) { q.Options = []string{"b", "B", "b"} })},
		{api.ErrName, first(func(q *api.Question) { q.Options = []string{"b", "c", "b"} })},
		{api.ErrTwice, first(func(q *api.Question) { q.Options = []string{"b", "c"} })},
		{api.ErrTwice, func(l *[]api.Question) { (*l)[1].Key = "b" }},
		{api.ErrKind, func(l *[]api.Question) { (*l)[1] = api.Question{Key: "b", Kind: api.QuestScore, Most: 1} }},
		{api.ErrName, func(l *[]api.Question) { *l = (*l)[:2] }},
	})
	for _, key := range badKeys {
		is(t, review.CheckSheet([]api.Question{{Key: key, Kind: api.QuestScore, Most: 1}}), api.ErrName)
		is(t, review.CheckSheet([]api.Question{{Key: "a", Kind: api.QuestChoice, Options: []string{key}}}), api.ErrName)
	}
	for _, kind := range []int{api.QuestScore, api.QuestWords} {
		is(t, review.CheckSheet([]api.Question{{Key: "a", Kind: kind, Most: 1, Options: []string{"b"}}}), api.ErrForm)
	}
	for _, n := range []int{math.MinInt, -1, 0, math.MaxInt} {
		is(t, review.CheckSheet([]api.Question{{Key: "a", Kind: api.QuestScore, Most: n}}), api.ErrArg)
		is(t, review.CheckSheet([]api.Question{{Key: "a", Kind: api.QuestWords, Most: n}}), api.ErrArg)
		if n != 0 {
			is(t, review.CheckSheet([]api.Question{{Key: "a", Kind: api.QuestChoice, Most: n, Options: []string{"b"}}}), api.ErrForm)
			is(t, review.CheckSheet([]api.Question{{Key: "a", Kind: n, Most: 1}}), api.ErrKind)
		}
	}
}

// P5.1: the errors of answers, in order, where a function gives them.
func TestAnswers(t *testing.T) {
	first := func(change func(*api.Answer)) func(*[]api.Answer) {
		return func(l *[]api.Answer) { change(&(*l)[0]) }
	}
	check := func(l []api.Answer) api.Errno {
		_, e := review.Missing(sheet(), l)
		for _, r := range [][]any{pack(review.Differ(sheet(), l, nil)), pack(review.Differ(sheet(), nil, l)), pack(review.Differ(sheet(), l, make([]api.Answer, 99)))} {
			if e != api.OK {
				is(t, r, all([]string{}, e))
			}
		}
		return e
	}
	none := api.Answer{Question: "x", Number: -1}
	climb(t, slices.Repeat([]api.Answer{none}, api.MaxQuestions+1), check, []rung[[]api.Answer]{
		{api.ErrLarge, func(l *[]api.Answer) { *l = (*l)[:3] }},
		{api.ErrNone, first(func(a *api.Answer) { *a = api.Answer{Question: "score", Number: 11, Option: "yes"} })},
		{api.ErrForm, first(func(a *api.Answer) { a.Option, a.Words = "", "a" })},
		{api.ErrForm, first(func(a *api.Answer) { a.Words = "" })},
		{api.ErrArg, first(func(a *api.Answer) { a.Number = -1 })},
		{api.ErrArg, first(func(a *api.Answer) { a.Number = math.MinInt })},
		{api.ErrArg, first(func(a *api.Answer) { a.Number = math.MaxInt })},
		{api.ErrArg, first(func(a *api.Answer) { a.Number = 10 })},
		{api.ErrNone, func(l *[]api.Answer) { (*l)[1].Question = "score" }},
		{api.ErrOrder, func(l *[]api.Answer) { (*l)[1] = api.Answer{Question: "fit", Number: 1, Option: "yes"} }},
		{api.ErrForm, func(l *[]api.Answer) { (*l)[1] = api.Answer{Question: "fit", Option: "yes", Words: "\n"} }},
		{api.ErrForm, func(l *[]api.Answer) { (*l)[1] = api.Answer{Question: "fit"} }},
		{api.ErrNone, func(l *[]api.Answer) { (*l)[1].Option = "Yes" }},
		{api.ErrNone, func(l *[]api.Answer) { (*l)[1].Option = "maybe" }},
		{api.ErrNone, func(l *[]api.Answer) { (*l)[2].Question = "note" }},
		{api.ErrOrder, func(l *[]api.Answer) { *l = (*l)[1:] }},
		{api.ErrOrder, func(l *[]api.Answer) { slices.Reverse(*l) }},
		{api.ErrForm, first(func(a *api.Answer) { *a = api.Answer{Question: "note", Option: "yes", Words: "a\n"} })},
		{api.ErrForm, first(func(a *api.Answer) { *a = api.Answer{Question: "note"} })},
		{api.ErrForm, first(func(a *api.Answer) { a.Words = strings.Repeat("a", 40) })},
		{api.ErrForm, first(func(a *api.Answer) { a.Words = strings.Repeat("\x00", 40) + "\n" })},
		{api.ErrForm, first(func(a *api.Answer) { a.Words = strings.Repeat("a", 30) + "\n" })},
		{api.ErrLarge, first(func(a *api.Answer) { a.Words = strings.Repeat("a", 29) + "\n" })},
	})
	for _, words := range []string{"a", " ", "\n ", "a\tb\n", "\r\n", "\x1f\n", "\x7f\n", "\xff\n", "\xed\xa0\x80\n"} {
		is(t, check([]api.Answer{{Question: "note", Words: words}}), api.ErrForm)
	}
	long := []api.Question{{Key: "a", Kind: api.QuestWords, Most: api.MaxWords}}
	is(t, pack(review.Missing(long, []api.Answer{{Question: "a", Words: strings.Repeat("\n", api.MaxWords)}})), all([]string{}, api.OK))
	is(t, pack(review.Missing(long, []api.Answer{{Question: "a", Words: strings.Repeat("\n", api.MaxWords+1)}})), all([]string{}, api.ErrLarge))
}

// needing is the sheet with just these questions Needed.
func needing(keys string) []api.Question {
	l := sheet()
	for i := range l {
		l[i].Needed = slices.Contains(strings.Fields(keys), l[i].Key)
	}
	return l
}

// P5.1: what is missing.
func TestMissing(t *testing.T) {
	for _, c := range []struct{ needed, given, want string }{
		{"", "", ""},
		{"", "score=1", ""},
		{"score", "", "score"},
		{"score", "score=0", ""},
		{"score", "note=a fit=yes sure=1", "score"},
		{"sure note", "score=0 fit=no", "note sure"},
		{"score note fit sure", "fit=no", "score note sure"},
		{"score note fit sure", "score=1 note=a fit=no sure=0", ""},
	} {
		is(t, pack(review.Missing(needing(c.needed), answers(strings.Fields(c.given)...))), all(strings.Fields(c.want), api.OK))
	}
	most := scores(api.MaxQuestions)
	var l []api.Answer
	for i := range most {
		most[i].Needed = true
		l = append(l, api.Answer{Question: most[i].Key})
	}
	is(t, pack(review.Missing(most, nil)), all(keys(api.MaxQuestions), api.OK))
	is(t, pack(review.Missing(most, l)), all([]string{}, api.OK))
	is(t, pack(review.Missing(nil, []api.Answer{{}})), all([]string{}, api.ErrForm))
	is(t, pack(review.Missing([]api.Question{{}}, []api.Answer{{}})), all([]string{}, api.ErrName))
}

// P5.1: what differs.
func TestDiffer(t *testing.T) {
	for _, c := range []struct{ a, b, want string }{
		{"", "", ""},
		{"score=1", "score=1", ""},
		{"score=1", "score=2", "score"},
		{"score=0", "", "score"},
		{"sure=0", "score=0", "score sure"},
		{"score=1 note=a fit=yes sure=2", "score=1 note=b fit=no sure=2", "note fit"},
		{"score=1 note=a fit=yes sure=2", "score=1 note=a fit=yes sure=2", ""},
		{"score=1 note=a fit=yes sure=2", "", "score note fit sure"},
		{"note=a", "note=a fit=yes", "fit"},
	} {
		a, b := answers(strings.Fields(c.a)...), answers(strings.Fields(c.b)...)
		is(t, pack(review.Differ(sheet(), a, b)), all(strings.Fields(c.want), api.OK))
		is(t, pack(review.Differ(sheet(), b, a)), all(strings.Fields(c.want), api.OK))
	}
	is(t, pack(review.Differ(nil, []api.Answer{{}}, nil)), all([]string{}, api.ErrForm))
	is(t, pack(review.Differ(sheet(), answers("score=11"), answers("x=1"))), all([]string{}, api.ErrArg))
	is(t, pack(review.Differ(sheet(), answers("score=1"), answers("x=1"))), all([]string{}, api.ErrNone))
}
