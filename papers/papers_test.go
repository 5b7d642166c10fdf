package papers

import (
	"fmt"
	"strings"
	"testing"

	"rebuttal/api"
)

// keys are so many, in order.
func keys(n int) []string {
	l := []string{}
	for i := range n {
		l = append(l, fmt.Sprintf("k%04d", i))
	}
	return l
}

func many(n int) []api.Paper {
	var l []api.Paper
	for _, key := range keys(n) {
		l = append(l, api.Paper{Id: key, Track: "main", Title: "T", Authors: []string{"ann"}})
	}
	return l
}

// known says that authors whose keys have more than three bytes are not known.
func known(author string) api.Errno {
	if len(author) > 3 {
		return api.ErrNone
	}
	return api.OK
}

// P1.5, P5.2: papers, their errors in order, and the limits.
func TestCheck(t *testing.T) {
	short := strings.Fields("a b c d e f g h i j k l m n o p q r s t u")
	title := strings.Repeat("t", api.MaxTitle)
	for i, c := range []struct {
		change func(*api.Paper)
		want   api.Errno
	}{
		{func(p *api.Paper) {}, api.OK},
		{func(p *api.Paper) { p.Id, p.Title = "", "" }, api.ErrName},
		{func(p *api.Paper) { p.Id, p.Track = "a", "M" }, api.ErrName},
		{func(p *api.Paper) { p.Id, p.Title = "k0000", "" }, api.ErrOrder},
		{func(p *api.Paper) { p.Id = "j" }, api.ErrOrder},
		{func(p *api.Paper) { p.Title, p.Authors = "", short }, api.ErrForm},
		{func(p *api.Paper) { p.Title = "a  b" }, api.ErrForm},
		{func(p *api.Paper) { p.Title = "a\n" }, api.ErrForm},
		{func(p *api.Paper) { p.Title = title }, api.OK},
		{func(p *api.Paper) { p.Title = title + "t" }, api.ErrForm},
		{func(p *api.Paper) { p.Authors, p.Topics = nil, []string{""} }, api.ErrForm},
		{func(p *api.Paper) { p.Authors = short[:api.MaxAuthors] }, api.OK},
		{func(p *api.Paper) { p.Authors = append([]string{"anna"}, short...) }, api.ErrLarge},
		{func(p *api.Paper) { p.Authors = []string{"a", "anna", "a"} }, api.ErrNone},
		{func(p *api.Paper) { p.Authors = []string{"a", "b", "a", "anna"} }, api.ErrTwice},
		{func(p *api.Paper) { p.Authors, p.Topics = []string{"anna"}, []string{""} }, api.ErrNone},
		{func(p *api.Paper) { p.Topics = keys(api.MaxTopics) }, api.OK},
		{func(p *api.Paper) { p.Topics = append([]string{""}, keys(api.MaxTopics)...) }, api.ErrLarge},
		{func(p *api.Paper) { p.Topics = []string{"a", "B"} }, api.ErrName},
		{func(p *api.Paper) { p.Topics = []string{"a", "a", ""} }, api.ErrOrder},
	} {
		l := many(2)
		c.change(&l[1])
		if e := Check(l, known); e != c.want {
			t.Errorf("case %d: got %d, want %d", i, e, c.want)
		}
		worse := append(l, api.Paper{Id: "z"})
		if e := Check(worse, known); e != c.want && c.want != api.OK {
			t.Errorf("case %d: got %d before the next one, want %d", i, e, c.want)
		}
	}
	for _, c := range []struct {
		l    []api.Paper
		want api.Errno
	}{
		{nil, api.OK},
		{many(api.MaxPapers), api.OK},
		{many(api.MaxPapers + 1), api.ErrLarge},
		{make([]api.Paper, api.MaxPapers+1), api.ErrLarge},
		{append(many(1), many(1)...), api.ErrOrder},
	} {
		if e := Check(c.l, known); e != c.want {
			t.Errorf("%d papers: got %d, want %d", len(c.l), e, c.want)
		}
	}
}
