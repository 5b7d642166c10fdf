package discuss_test

import (
	"math"
	"slices"
	"strings"
	"testing"

	"rebuttal/api"
	"rebuttal/discuss"
)

func reply(paper string, at int, words string) api.Reply {
	return api.Reply{Paper: paper, At: at, Words: words}
}

// P7.2: replies that are right, in any order.
func TestCheckReplies(t *testing.T) {
	long := strings.Repeat("a", api.MaxReply-1) + "\n"
	for _, l := range [][]api.Reply{
		nil,
		{reply("q", last, "\n"), reply("p", 0, long), reply("q", 5, " a  b\n\nä\n"), reply("q", 5, " a  b\n\nä\n")},
		slices.Repeat([]api.Reply{reply("p", 0, long)}, api.MaxReplies),
	} {
		is(t, discuss.CheckReplies(l), api.OK)
	}
}

// P7.2: the errors of replies, in order.
func TestCheckRepliesErrors(t *testing.T) {
	long := strings.Repeat("a", api.MaxReply)
	climb(t, make([]api.Reply, api.MaxReplies+1), discuss.CheckReplies, []rung[[]api.Reply]{
		{api.ErrLarge, func(l *[]api.Reply) { *l = []api.Reply{reply("P", -1, ""), reply("P", -1, "")} }},
		{api.ErrName, at(0, func(r *api.Reply) { r.Paper = "p" })},
		{api.ErrArg, at(0, func(r *api.Reply) { r.At = 9 })},
		{api.ErrForm, at(0, func(r *api.Reply) { r.Words = long })},
		{api.ErrForm, at(0, func(r *api.Reply) { r.Words = long + "\n" })},
		{api.ErrLarge, at(0, func(r *api.Reply) { r.Words = long[1:] + "\n" })},
		{api.ErrName, at(1, func(r *api.Reply) { r.Paper = "a" })},
		{api.ErrArg, at(1, func(r *api.Reply) { r.At = 0 })},
		{api.ErrForm, at(1, func(r *api.Reply) { r.Words = "a\n" })},
	})
	for _, key := range badKeys {
		is(t, discuss.CheckReplies([]api.Reply{reply(key, 0, "a\n")}), api.ErrName)
	}
	for _, n := range badMoments {
		is(t, discuss.CheckReplies([]api.Reply{reply("p", n, "a\n")}), api.ErrArg)
	}
	for _, words := range badWords {
		is(t, discuss.CheckReplies([]api.Reply{reply("p", 0, words)}), api.ErrForm)
	}
}

// P7.2: what counts, and of which papers there is something.
func TestCounted(t *testing.T) {
	rules := func(from, to, most int) api.ReplyRules {
		return api.ReplyRules{Window: api.Window{From: from, To: to}, Most: most}
	}
	l := []api.Reply{
		reply("q", 7, "b\n"), reply("p", 4, "early\n"), reply("p", 5, "first\n"), reply("p", 9, "last\n"), reply("p", 10, "late\n"),
		reply("q", 7, "ab\n"), reply("q", 7, "B\n"), reply("q", 6, "z\n"), reply("r", 8, "1234567\n"), reply("r", 6, "short\n"), reply("s", 4, "a\n"),
	}
	for _, c := range []struct {
		r    api.ReplyRules
		want []api.Reply
	}{
		{rules(5, 10, api.MaxReply), []api.Reply{l[3], l[0], l[8]}},
		{rules(5, 10, 8), []api.Reply{l[3], l[0], l[8]}},
		{rules(5, 10, 7), []api.Reply{l[3], l[0], l[9]}},
		{rules(5, 10, 5), []api.Reply{l[3], l[0]}},
		{rules(5, 10, 4), []api.Reply{l[0]}},
		{rules(5, 10, 2), []api.Reply{l[0]}},
		{rules(5, 10, 1), nil},
		{rules(5, 10, 0), nil},
		{rules(5, 9, 99), []api.Reply{l[2], l[0], l[8]}},
		{rules(5, 7, 99), []api.Reply{l[2], l[7], l[9]}},
		{rules(4, 5, 99), []api.Reply{l[1], l[10]}},
		{rules(5, 5, 99), nil},
		{rules(0, 4, 99), nil},
		{rules(11, api.End, 99), nil},
		{rules(0, api.End, 99), []api.Reply{l[4], l[0], l[8], l[10]}},
		{rules(api.End, api.End, 99), nil},
	} {
		is(t, all(c.r, pack(discuss.Counted(c.r, l))), all(c.r, all(c.want, api.OK)))
		is(t, pack(discuss.Replied(c.r, l)), all(papersOf(c.want), api.OK))
	}
	end := []api.Reply{reply("p", last, "a\n")}
	is(t, pack(discuss.Counted(rules(last, api.End, 2), end)), all(end, api.OK))
	is(t, pack(discuss.Counted(rules(0, last, 2), end)), all([]api.Reply{}, api.OK))
	is(t, pack(discuss.Counted(rules(0, 9, 9), nil)), all([]api.Reply{}, api.OK))
	is(t, pack(discuss.Replied(rules(0, 9, 9), nil)), all([]string{}, api.OK))
}

func papersOf(l []api.Reply) []string {
	var papers []string
	for _, r := range l {
		papers = append(papers, r.Paper)
	}
	return papers
}

// plainCounted looks for the reply of each paper to which no other one is preferred.
func plainCounted(r api.ReplyRules, l []api.Reply) []api.Reply {
	var counted []api.Reply
	for _, paper := range somePapers {
		var best *api.Reply
		for i, reply := range l {
			if reply.Paper != paper || reply.At < r.Window.From || reply.At >= r.Window.To || len(reply.Words) > r.Most {
				continue
			}
			if best == nil || reply.At > best.At || reply.At == best.At && reply.Words > best.Words {
				best = &l[i]
			}
		}
		if best != nil {
			counted = append(counted, *best)
		}
	}
	return counted
}

// P7.2: what counts does not depend on the order of replies.
func TestCountedPlainly(t *testing.T) {
	d := dice(7)
	for range 1000 {
		to := d.below(8)
		r := api.ReplyRules{Window: api.Window{From: d.below(to + 1), To: to}, Most: d.below(7)}
		l := d.replies(30)
		want := plainCounted(r, l)
		is(t, pack(discuss.Counted(r, l)), all(want, api.OK))
		is(t, pack(discuss.Counted(r, shuffled(&d, l))), all(want, api.OK))
		is(t, pack(discuss.Replied(r, shuffled(&d, l))), all(papersOf(want), api.OK))
	}
}

// P7.2: the errors of Counted and Replied, in order.
func TestCountedErrors(t *testing.T) {
	none := []api.Reply{}
	for _, r := range []api.ReplyRules{
		{Window: api.Window{From: -1, To: 9}},
		{Window: api.Window{From: math.MinInt, To: math.MaxInt}},
		{Window: api.Window{From: 6, To: 5}},
		{Window: api.Window{From: 0, To: api.End + 1}},
		{Window: api.Window{From: api.End + 1, To: api.End + 1}},
		{Most: -1},
		{Most: api.MaxReply + 1},
		{Most: math.MaxInt},
		{Most: math.MinInt},
	} {
		for _, l := range [][]api.Reply{nil, {reply("P", 0, "")}} {
			is(t, pack(discuss.Counted(r, l)), all(none, api.ErrArg))
			is(t, pack(discuss.Replied(r, l)), all([]string{}, api.ErrArg))
		}
	}
	right := api.ReplyRules{Window: api.Window{To: api.End}, Most: api.MaxReply}
	for want, l := range map[api.Errno][]api.Reply{
		api.ErrLarge: make([]api.Reply, api.MaxReplies+1),
		api.ErrName:  {reply("p", 0, "a\n"), reply("P", 0, "a\n")},
		api.ErrArg:   {reply("p", -1, "a\n")},
		api.ErrForm:  {reply("p", 0, "a")},
	} {
		is(t, pack(discuss.Counted(right, l)), all(none, want))
		is(t, pack(discuss.Replied(right, l)), all([]string{}, want))
	}
}
