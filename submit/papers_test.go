package submit_test

import (
	"strings"
	"testing"

	"rebuttal/api"
	"rebuttal/submit"
)

func paper() api.Paper {
	return api.Paper{Id: "p", Track: "main", Title: "On It", Authors: []string{"bob", "ann"}, Topics: []string{"ai", "os"}}
}

// P2.1: what is right.
func TestCheckPaper(t *testing.T) {
	is(t, submit.CheckPaper(paper()), api.OK)
	p := paper()
	p.Topics = nil
	p.Authors = []string{"z", "a", "m"}
	p.Title = strings.Repeat("t", api.MaxTitle)
	is(t, submit.CheckPaper(p), api.OK)
	p.Title = "Über €"
	p.Id = strings.Repeat("k", api.MaxName)
	p.Authors = keys(api.MaxAuthors)
	p.Topics = keys(api.MaxTopics)
	is(t, submit.CheckPaper(p), api.OK)
	is(t, submit.CheckPaper(api.Paper{}), api.ErrName)
}

// P2.1: the errors, each where the one before is put right.
func TestCheckPaperErrors(t *testing.T) {
	p := api.Paper{Id: "P", Track: "", Title: strings.Repeat(" ", api.MaxTitle+1), Topics: append(keys(api.MaxTopics), "")}
	climb(t, p, submit.CheckPaper, []rung[api.Paper]{
		{api.ErrName, func(p *api.Paper) { p.Id = "p" }},
		{api.ErrName, func(p *api.Paper) { p.Track = "t" }},
		{api.ErrLarge, func(p *api.Paper) { p.Title = strings.Repeat(" ", api.MaxTitle) }},
		{api.ErrForm, func(p *api.Paper) { p.Title = "" }},
		{api.ErrForm, func(p *api.Paper) { p.Title = "A" }},
		{api.ErrNone, func(p *api.Paper) { p.Authors = append(keys(api.MaxAuthors), "A") }},
		{api.ErrLarge, func(p *api.Paper) { p.Authors = []string{"b", "b", "A"} }},
		{api.ErrTwice, func(p *api.Paper) { p.Authors = []string{"b", "A", "b"} }},
		{api.ErrName, func(p *api.Paper) { p.Authors = []string{"b", "a", "b"} }},
		{api.ErrTwice, func(p *api.Paper) { p.Authors = []string{"b", "a"} }},
		{api.ErrLarge, func(p *api.Paper) { p.Topics = []string{"b", "a", "A"} }},
		{api.ErrOrder, func(p *api.Paper) { p.Topics = []string{"b", "b"} }},
		{api.ErrOrder, func(p *api.Paper) { p.Topics = []string{"b", "C"} }},
		{api.ErrName, func(p *api.Paper) { p.Topics = []string{"b", "c"} }},
	})
	for _, s := range badKeys {
		for _, spoil := range []func(*api.Paper){
			func(p *api.Paper) { p.Id = s },
			func(p *api.Paper) { p.Track = s },
			func(p *api.Paper) { p.Authors = []string{s} },
			func(p *api.Paper) { p.Topics = []string{s} },
		} {
			p := paper()
			spoil(&p)
			is(t, all(s, submit.CheckPaper(p)), all(s, api.ErrName))
		}
	}
	for _, s := range []string{" a", "a ", "a  b", "a\n", "a\tb", "\xff", "\x7f"} {
		p := paper()
		p.Title = s
		is(t, all(s, submit.CheckPaper(p)), all(s, api.ErrForm))
	}
}

// P2.1: CheckPapers.
func TestCheckPapers(t *testing.T) {
	var l []api.Paper
	for _, id := range keys(api.MaxPapers) {
		p := paper()
		p.Id = id
		l = append(l, p)
	}
	is(t, submit.CheckPapers(nil), api.OK)
	is(t, submit.CheckPapers(l), api.OK)
	is(t, submit.CheckPapers(append(l, api.Paper{})), api.ErrLarge)
	l[3].Id = l[2].Id
	is(t, submit.CheckPapers(l), api.ErrOrder)
	l[3].Id = l[1].Id
	is(t, submit.CheckPapers(l), api.ErrOrder)
	// A paper's own error comes before its place, and after those of the papers before.
	l[3].Title = ""
	is(t, submit.CheckPapers(l), api.ErrForm)
	l[1].Authors = nil
	is(t, submit.CheckPapers(l), api.ErrNone)
}
