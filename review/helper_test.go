package review_test

import (
	"fmt"
	"slices"
	"strconv"
	"strings"
	"testing"

	"rebuttal/api"
	"rebuttal/review"
)

// show writes a value so that nil and empty lists are the same (Z5).
func show(v any) string {
	return strings.ReplaceAll(fmt.Sprintf("%#v", v), "(nil)", "{}")
}

func is(t *testing.T, got, want any) {
	t.Helper()
	if g, w := show(got), show(want); g != w {
		t.Errorf("got %.2000s, want %.2000s", g, w)
	}
}

// all makes a list of the results of a call.
func all(l ...any) []any { return l }

// pack makes a list of the two results of a call.
func pack[T any](v T, e api.Errno) []any { return all(v, e) }

// pack3 makes a list of the three results of a call.
func pack3[T, U any](v T, w U, e api.Errno) []any { return all(v, w, e) }

// rung is the error that a value has, and how it is put right.
type rung[T any] struct {
	want api.Errno
	fix  func(*T)
}

// climb puts right what is wrong with a value, one after the other, and asks for the error before each step.
func climb[T any](t *testing.T, x T, check func(T) api.Errno, rungs []rung[T]) {
	t.Helper()
	for i, r := range rungs {
		if e := check(x); e != r.want {
			t.Errorf("rung %d: got %d, want %d: %.300s", i, e, r.want, show(x))
		}
		r.fix(&x)
	}
	if e := check(x); e != api.OK {
		t.Errorf("at the end: got %d: %.300s", e, show(x))
	}
}

// keys are so many, in order.
func keys(n int) []string {
	l := []string{}
	for i := range n {
		l = append(l, fmt.Sprintf("k%04d", i))
	}
	return l
}

// badKeys are strings that are no keys.
var badKeys = []string{"", "A", "0", "-a", "_a", "a b", "a.", "ä", "a\n", "aB", "a\x00", strings.Repeat("k", api.MaxName+1)}

func pair(paper, person string) api.Pair { return api.Pair{Paper: paper, Person: person} }

// list are pairs with a blank between paper and person.
func list(words ...string) []api.Pair {
	var l []api.Pair
	for _, w := range words {
		paper, person, _ := strings.Cut(w, " ")
		l = append(l, pair(paper, person))
	}
	return l
}

// many are so many pairs, in order.
func many(n int) []api.Pair {
	var l []api.Pair
	for i := range n {
		l = append(l, pair(fmt.Sprintf("k%04d", i/api.MaxPeople), fmt.Sprintf("k%04d", i%api.MaxPeople)))
	}
	return l
}

func number(s string) int {
	n, err := strconv.Atoi(s)
	if err != nil {
		panic(err)
	}
	return n
}

func paper(id string, authors ...string) api.Paper {
	return api.Paper{Id: id, Track: "main", Title: "A title", Authors: authors}
}

func sheet() []api.Question {
	return []api.Question{
		{Key: "score", Kind: api.QuestScore, Most: 10, Needed: true},
		{Key: "note", Kind: api.QuestWords, Most: 30, Secret: true},
		{Key: "fit", Kind: api.QuestChoice, Options: []string{"yes", "no", "maybe"}},
		{Key: "sure", Kind: api.QuestScore, Most: 100, Secret: true},
	}
}

// example has an author who is a chair, and reads another paper; one who is barred all the same; a chair who is barred; and one who is nothing else.
func example() api.Setup {
	return api.Setup{
		Sheet:  sheet(),
		Papers: []api.Paper{paper("p", "ann", "abe"), paper("q", "bob"), paper("r", "cid")},
		Pairs:  list("p bob", "p cid", "q ann", "q cid", "r bob"),
		Barred: list("p abe", "p dee", "q dee", "q eve", "r ann"),
		Chairs: []string{"ann", "dee", "gus"},
		Due:    10_000,
		Reply:  20_000,
	}
}

// answers are those to the questions of sheet: score=7 note=text fit=yes.
func answers(words ...string) []api.Answer {
	var l []api.Answer
	for _, w := range words {
		key, value, _ := strings.Cut(w, "=")
		a := api.Answer{Question: key}
		switch key {
		case "note":
			a.Words = value + "\n"
		case "fit":
			a.Option = value
		default:
			a.Number = number(value)
		}
		l = append(l, a)
	}
	return l
}

// reviews have an At, a paper, a person, a By or -, done or draft, and answers; their Nos begin with 1.
func reviews(lines ...string) []api.Review {
	var l []api.Review
	for i, line := range lines {
		words := strings.Fields(line)
		r := api.Review{No: i + 1, At: number(words[0]), Paper: words[1], Person: words[2], Done: words[4] == "done"}
		if words[3] != "-" {
			r.By = words[3]
		}
		r.Answers = answers(words[5:]...)
		l = append(l, r)
	}
	return l
}

// some are reviews of the example: of p bob two that are done, and a draft behind them; of p cid a draft and one that is done; of q ann one that is done; of q cid a draft; of r bob none.
func some() []api.Review {
	return reviews(
		"10 p bob - done score=7 note=no",
		"20 p cid fay draft",
		"20 q ann - done score=1 fit=yes",
		"30 p bob fay done score=6 fit=no sure=99",
		"40 q cid - draft score=3",
		"50 p bob - draft note=hm",
		"60 p cid fay done score=2 note=bad fit=maybe sure=0",
	)
}

// noAnswers are reviews without what they say.
func noAnswers(l []api.Review) []api.Review {
	l = slices.Clone(l)
	for i := range l {
		l[i].Answers = nil
	}
	return l
}

// dice is a row of numbers that look thrown, and are the same each time.
type dice uint64

func (d *dice) below(n int) int {
	*d = *d*6364136223846793005 + 1442695040888963407
	return int(uint64(*d)>>33) % n
}

func (d *dice) pick(l []string) string { return l[d.below(len(l))] }

// pairs are some of those of papers and persons: of so many dice, one has to say yes.
func (d *dice) pairs(papers, people []string, rare int) []api.Pair {
	var l []api.Pair
	for _, p := range papers {
		for _, a := range people {
			if d.below(rare) == 0 {
				l = append(l, pair(p, a))
			}
		}
	}
	return l
}

var (
	someIds    = []string{"p", "q", "r"}
	somePeople = []string{"a", "b", "c", "d", "e"}
	someTexts  = []string{"\n", "a\n", "a\n\nb\n", " |x\n", "|\n", "ä\n"}
)

// setup has moments below 12 that matter.
func (d *dice) setup(t *testing.T) api.Setup {
	t.Helper()
	s := api.Setup{Sheet: sheet(), Due: d.below(13), Reply: d.below(13)}
	for i := range s.Sheet {
		s.Sheet[i].Needed, s.Sheet[i].Secret = d.below(4) == 0, d.below(2) == 0
	}
	if d.below(5) == 0 {
		s.Reply = api.End
	}
	for _, id := range someIds {
		s.Papers = append(s.Papers, paper(id, somePeople[d.below(5)]))
	}
	s.Barred = d.pairs(someIds, somePeople, 6)
	for _, p := range d.pairs(someIds, somePeople, 2) {
		author := s.Papers[slices.Index(someIds, p.Paper)].Authors[0] == p.Person
		if !author && !slices.Contains(s.Barred, p) {
			s.Pairs = append(s.Pairs, p)
		}
	}
	for _, key := range somePeople {
		if d.below(6) == 0 {
			s.Chairs = append(s.Chairs, key)
		}
	}
	is(t, review.CheckSetup(s), api.OK)
	return s
}

// answers are some to the questions of sheet.
func (d *dice) answers(needed []api.Question) []api.Answer {
	var l []api.Answer
	for _, q := range needed {
		a := api.Answer{Question: q.Key}
		switch q.Kind {
		case api.QuestScore:
			a.Number = d.below(min(q.Most, 12) + 1)
		case api.QuestChoice:
			a.Option = d.pick(q.Options)
		case api.QuestWords:
			a.Words = d.pick(someTexts)
		}
		if q.Needed || d.below(2) == 0 {
			l = append(l, a)
		}
	}
	return l
}

// reviews are up to n right ones of a setup.
func (d *dice) reviews(t *testing.T, s api.Setup, n int) []api.Review {
	t.Helper()
	var l []api.Review
	at := 0
	for i := range d.below(n + 1) {
		if len(s.Pairs) == 0 {
			break
		}
		at += d.below(3)
		p := s.Pairs[d.below(len(s.Pairs))]
		r := api.Review{No: i + 1, At: at, Paper: p.Paper, Person: p.Person, Done: d.below(2) == 0, Answers: d.answers(s.Sheet)}
		if by := d.pick(somePeople); by != p.Person && d.below(2) == 0 {
			r.By = by
		}
		l = append(l, r)
	}
	is(t, review.Check(s, l), api.OK)
	return l
}
