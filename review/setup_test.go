package review_test

import (
	"fmt"
	"math"
	"slices"
	"strings"
	"testing"

	"rebuttal/api"
	"rebuttal/review"
)

// P5.2: what is right with a setup.
func TestCheckSetup(t *testing.T) {
	plain := api.Setup{Sheet: sheet()}
	late := example()
	late.Due, late.Reply = api.End, api.End
	for _, s := range []api.Setup{plain, example(), late, greatestSetup()} {
		is(t, review.CheckSetup(s), api.OK)
	}
}

// greatestSetup has as much as there can be.
func greatestSetup() api.Setup {
	s := api.Setup{Sheet: scores(api.MaxQuestions), Chairs: keys(api.MaxHeads)}
	var authors []string
	for i := range api.MaxAuthors {
		authors = append(authors, fmt.Sprint("author", i))
	}
	for _, key := range keys(api.MaxPapers) {
		p := paper(key, authors...)
		p.Topics = keys(api.MaxTopics)
		s.Papers = append(s.Papers, p)
	}
	s.Pairs = many(api.MaxPapers * api.MaxPeople)
	for _, p := range s.Pairs {
		s.Barred = append(s.Barred, pair(p.Paper, "z"+p.Person))
	}
	return s
}

// P5.2: the errors of the sheet, and of papers.
func TestCheckSetupPapers(t *testing.T) {
	first := func(change func(*api.Paper)) func(*api.Setup) {
		return func(s *api.Setup) { change(&s.Papers[0]) }
	}
	bad := append(many(api.MaxPapers*api.MaxPeople), pair("P", "a"))
	s := api.Setup{Papers: make([]api.Paper, api.MaxPapers+1), Pairs: bad, Barred: bad, Chairs: badKeys, Due: -1}
	climb(t, s, review.CheckSetup, []rung[api.Setup]{
		{api.ErrForm, func(s *api.Setup) { s.Sheet = make([]api.Question, api.MaxQuestions+1) }},
		{api.ErrLarge, func(s *api.Setup) { s.Sheet = []api.Question{{}} }},
		{api.ErrName, func(s *api.Setup) { s.Sheet = sheet() }},
		{api.ErrLarge, func(s *api.Setup) { s.Papers = []api.Paper{{}, paper("P")} }},
		{api.ErrName, first(func(p *api.Paper) { p.Id = "p" })},
		{api.ErrName, first(func(p *api.Paper) { p.Track = "main" })},
		{api.ErrForm, first(func(p *api.Paper) { p.Title = "a " })},
		{api.ErrForm, first(func(p *api.Paper) { p.Title = strings.Repeat("t", api.MaxTitle+1) })},
		{api.ErrForm, first(func(p *api.Paper) { p.Title = strings.Repeat("t", api.MaxTitle) })},
		{api.ErrForm, first(func(p *api.Paper) { p.Authors = make([]string, api.MaxAuthors+1) })},
		{api.ErrLarge, first(func(p *api.Paper) { p.Authors = []string{"b", "B", "b"} })},
		{api.ErrName, first(func(p *api.Paper) { p.Authors = []string{"b", "a", "b", "B"} })},
		{api.ErrTwice, first(func(p *api.Paper) { p.Authors, p.Topics = []string{"b", "a"}, make([]string, api.MaxTopics+1) })},
		{api.ErrLarge, first(func(p *api.Paper) { p.Topics = []string{"b", "B", "a"} })},
		{api.ErrName, first(func(p *api.Paper) { p.Topics = []string{"b", "b", "B"} })},
		{api.ErrOrder, first(func(p *api.Paper) { p.Topics = []string{"b", "c"} })},
		{api.ErrName, func(s *api.Setup) { s.Papers[1] = api.Paper{Id: "p", Track: "main"} }},
		{api.ErrOrder, func(s *api.Setup) { s.Papers[1] = paper("q", "a") }},
		{api.ErrLarge, func(s *api.Setup) { s.Pairs, s.Barred, s.Chairs, s.Due = nil, nil, nil, 0 }},
	})
	for _, key := range badKeys {
		s := example()
		s.Papers[0].Authors = []string{"ann", key}
		is(t, review.CheckSetup(s), api.ErrName)
	}
}

// P5.2: the errors of Pairs, Barred, Chairs, Due and Reply.
func TestCheckSetupPairs(t *testing.T) {
	s := example()
	s.Pairs = append(many(api.MaxPapers*api.MaxPeople), pair("P", "a"))
	s.Barred = s.Pairs
	s.Chairs = append(keys(api.MaxHeads), "A")
	s.Due, s.Reply = -1, -1
	climb(t, s, review.CheckSetup, []rung[api.Setup]{
		{api.ErrLarge, func(s *api.Setup) { s.Pairs = list("z a", "P a") }},
		{api.ErrName, func(s *api.Setup) { s.Pairs = list("z a", "z a") }},
		{api.ErrOrder, func(s *api.Setup) { s.Pairs = list("p ann", "z a") }},
		{api.ErrNone, func(s *api.Setup) { s.Pairs = list("p ann", "p x", "q c") }},
		{api.ErrLarge, func(s *api.Setup) { s.Barred = list("z c", "p B") }},
		{api.ErrName, func(s *api.Setup) { s.Barred = list("z c", "q c") }},
		{api.ErrOrder, func(s *api.Setup) { s.Barred = list("p x", "q c", "z c") }},
		{api.ErrNone, func(s *api.Setup) { s.Barred = list("p x", "q c") }},
		{api.ErrConflict, func(s *api.Setup) { s.Pairs = list("p x", "q c") }},
		{api.ErrConflict, func(s *api.Setup) { s.Pairs = list("p xx", "q c") }},
		{api.ErrConflict, func(s *api.Setup) { s.Pairs = list("p xx", "q bob") }},
		{api.ErrConflict, func(s *api.Setup) { s.Pairs = list("p abe", "q xx") }},
		{api.ErrConflict, func(s *api.Setup) { s.Pairs = list("p bob", "q abe", "q ann", "q x") }},
		{api.ErrLarge, func(s *api.Setup) { s.Chairs = []string{"b", "A", "a"} }},
		{api.ErrName, func(s *api.Setup) { s.Chairs = []string{"b", "b", "A"} }},
		{api.ErrOrder, func(s *api.Setup) { s.Chairs = []string{"b", "a"} }},
		{api.ErrOrder, func(s *api.Setup) { s.Chairs = []string{"a", "b"} }},
		{api.ErrArg, func(s *api.Setup) { s.Due = api.End + 1 }},
		{api.ErrArg, func(s *api.Setup) { s.Due, s.Reply = 0, math.MinInt }},
		{api.ErrArg, func(s *api.Setup) { s.Reply = api.End + 1 }},
		{api.ErrArg, func(s *api.Setup) { s.Due, s.Reply = math.MaxInt, 0 }},
		{api.ErrArg, func(s *api.Setup) { s.Due, s.Reply = math.MinInt, 0 }},
		{api.ErrArg, func(s *api.Setup) { s.Due, s.Reply = 0, math.MaxInt }},
		{api.ErrArg, func(s *api.Setup) { s.Due, s.Reply = api.End, 0 }},
	})
	for _, key := range badKeys {
		for i, wrong := range []func(*api.Setup){
			func(s *api.Setup) { s.Pairs = []api.Pair{pair("p", key)} },
			func(s *api.Setup) { s.Barred = []api.Pair{pair("p", key)} },
			func(s *api.Setup) { s.Chairs = []string{key} },
		} {
			s := example()
			wrong(&s)
			is(t, all(i, review.CheckSetup(s)), all(i, api.ErrName))
		}
	}
}

// wrongSetups are setups with each of the errors.
func wrongSetups() map[api.Errno]api.Setup {
	l := map[api.Errno]api.Setup{}
	for e, wrong := range map[api.Errno]func(*api.Setup){
		api.ErrForm:     func(s *api.Setup) { s.Sheet = nil },
		api.ErrLarge:    func(s *api.Setup) { s.Papers = make([]api.Paper, api.MaxPapers+1) },
		api.ErrName:     func(s *api.Setup) { s.Chairs = []string{""} },
		api.ErrTwice:    func(s *api.Setup) { s.Sheet[1].Key = "score" },
		api.ErrKind:     func(s *api.Setup) { s.Sheet[3].Kind = 9 },
		api.ErrOrder:    func(s *api.Setup) { slices.Reverse(s.Papers) },
		api.ErrNone:     func(s *api.Setup) { s.Barred = list("s ann") },
		api.ErrConflict: func(s *api.Setup) { s.Pairs = list("r ann") },
		api.ErrArg:      func(s *api.Setup) { s.Reply = -1 },
	} {
		s := example()
		wrong(&s)
		l[e] = s
	}
	return l
}
