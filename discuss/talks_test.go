package discuss_test

import (
	"math"
	"slices"
	"strings"
	"testing"

	"rebuttal/api"
	"rebuttal/discuss"
)

// P7.1: marks that are right; a paper can have as many as there are.
func TestCheckMarks(t *testing.T) {
	k := strings.Repeat("k", api.MaxName)
	for _, l := range [][]api.Mark{
		nil,
		marks("p 0 10", "p0 3", "q 0"),
		{mark(k, k, 1), mark("z", "a", 0)},
		grid(api.MaxMarks, 1),
		grid(1, api.MaxMarks),
		grid(100, 30),
	} {
		is(t, discuss.CheckMarks(l), api.OK)
	}
}

// P7.1: the errors of marks, in order.
func TestCheckMarksErrors(t *testing.T) {
	l := append(grid(api.MaxMarks, 1), mark("", "", -1))
	climb(t, l, discuss.CheckMarks, []rung[[]api.Mark]{
		{api.ErrLarge, func(l *[]api.Mark) { *l = []api.Mark{mark("P", "b", -1), mark("Q", "a", 11)} }},
		{api.ErrName, at(0, func(m *api.Mark) { m.Paper, m.Person = "p", "" })},
		{api.ErrName, at(0, func(m *api.Mark) { m.Person = "b" })},
		{api.ErrArg, at(0, func(m *api.Mark) { m.Score = api.MaxScore + 1 })},
		{api.ErrArg, at(0, func(m *api.Mark) { m.Score = math.MinInt })},
		{api.ErrArg, at(0, func(m *api.Mark) { m.Score = math.MaxInt })},
		{api.ErrArg, at(0, func(m *api.Mark) { m.Score = api.MaxScore })},
		{api.ErrName, at(1, func(m *api.Mark) { m.Paper, m.Person = "a", "A" })},
		{api.ErrName, at(1, func(m *api.Mark) { m.Person = "z" })},
		{api.ErrOrder, at(1, func(m *api.Mark) { m.Paper, m.Person = "p", "a" })},
		{api.ErrOrder, at(1, func(m *api.Mark) { m.Person = "b" })},
		{api.ErrOrder, at(1, func(m *api.Mark) { m.Person = "c" })},
		{api.ErrArg, at(1, func(m *api.Mark) { m.Score = 0 })},
	})
	for _, key := range badKeys {
		is(t, discuss.CheckMarks([]api.Mark{mark(key, "a", 0)}), api.ErrName)
		is(t, discuss.CheckMarks([]api.Mark{mark("p", key, 0)}), api.ErrName)
	}
}

// wrongMarks are marks with each of the errors.
func wrongMarks() map[api.Errno][]api.Mark {
	return map[api.Errno][]api.Mark{
		api.ErrLarge: grid(1, api.MaxMarks+1),
		api.ErrName:  {mark("P", "a", 1)},
		api.ErrOrder: {mark("p", "b", 1), mark("p", "a", 1)},
		api.ErrArg:   marks("p 11"),
	}
}

// P7.1: Mean.
func TestMean(t *testing.T) {
	l := marks("p 8 7 7", "q 0 0", "r 10", "s 3 4 5 6 2 4")
	for _, c := range []struct {
		paper    string
		num, den int
		e        api.Errno
	}{
		{"p", 22, 3, api.OK},
		{"q", 0, 1, api.OK},
		{"r", 10, 1, api.OK},
		{"s", 4, 1, api.OK},
		{"t", 0, 0, api.ErrNone},
		{"a", 0, 0, api.ErrNone},
		{"P", 0, 0, api.ErrName},
		{"", 0, 0, api.ErrName},
	} {
		is(t, pack(discuss.Mean(l, c.paper)), all(api.Fraction{Num: c.num, Den: c.den}, c.e))
	}
	is(t, pack(discuss.Mean(nil, "p")), all(api.Fraction{}, api.ErrNone))
	full := grid(1, api.MaxMarks)
	is(t, pack(discuss.Mean(full, "k0000")), all(fraction(plainMean(scores(full, "k0000"))), api.OK))
	d := dice(3)
	for range 200 {
		l := d.marks(t)
		for _, m := range l {
			is(t, pack(discuss.Mean(l, m.Paper)), all(fraction(plainMean(scores(l, m.Paper))), api.OK))
		}
	}
}

// P7.1: what Mean and Talks return for wrong marks.
func TestErrorsOfMarks(t *testing.T) {
	for want, l := range wrongMarks() {
		is(t, pack(discuss.Mean(l, "?")), all(api.Fraction{}, want))
		is(t, pack(discuss.Talks(api.TalkRules{}, nil, l, badKeys)), all([]api.Called{}, want))
	}
}

// P7.1: the papers that are talked about.
func TestTalks(t *testing.T) {
	l := marks("p 2 5 9", "q 5 5", "r 0", "s 10 9", "u 7 6 6 6")
	names := letters("opqrstu")
	window := func(from, to int) api.Window { return api.Window{From: from, To: to} }
	for _, c := range []struct {
		r       api.TalkRules
		replied string
		want    string
	}{
		{api.TalkRules{}, "opqrstu", ""},
		{api.TalkRules{Spread: 1}, "", "p1 s1 u1"},
		{api.TalkRules{Spread: 2}, "", "p1"},
		{api.TalkRules{Spread: 7}, "", "p1"},
		{api.TalkRules{Spread: 8}, "", ""},
		{api.TalkRules{Spread: 10}, "", ""},
		{api.TalkRules{Middle: window(0, 1)}, "", "r2"},
		{api.TalkRules{Middle: window(0, 0)}, "", ""},
		{api.TalkRules{Middle: window(50, 50)}, "", ""},
		{api.TalkRules{Middle: window(50, 51)}, "", "q2"},
		{api.TalkRules{Middle: window(53, 54)}, "", "p2"}, // 16/3 is more than 53/10
		{api.TalkRules{Middle: window(51, 53)}, "", ""},
		{api.TalkRules{Middle: window(54, 62)}, "", ""},
		{api.TalkRules{Middle: window(62, 63)}, "", "u2"}, // 25/4
		{api.TalkRules{Middle: window(50, 95)}, "", "p2 q2 u2"},
		{api.TalkRules{Middle: window(95, 96)}, "", "s2"},
		{api.TalkRules{Middle: window(0, 101)}, "", "p2 q2 r2 s2 u2"},
		{api.TalkRules{Few: 1}, "", "o3 t3"},
		{api.TalkRules{Few: 2}, "", "o3 r3 t3"},
		{api.TalkRules{Few: 4}, "", "o3 p3 q3 r3 s3 t3"},
		{api.TalkRules{Few: 11}, "", "o3 p3 q3 r3 s3 t3 u3"},
		{api.TalkRules{Reply: true}, "", ""},
		{api.TalkRules{Reply: true}, "anoqrz", "o4 q4 r4"},
		{api.TalkRules{Spread: 3, Middle: window(50, 60), Few: 4, Reply: true}, "pt", "o3 p1234 q23 r3 s3 t34"},
	} {
		var want []api.Called
		for _, word := range strings.Fields(c.want) {
			called := api.Called{Paper: word[:1]}
			for _, digit := range letters(word[1:]) {
				called.Why = append(called.Why, number(digit))
			}
			want = append(want, called)
		}
		is(t, all(c.r, pack(discuss.Talks(c.r, names, l, letters(c.replied)))), all(c.r, all(want, api.OK)))
	}
	few := api.TalkRules{Few: 1, Reply: true}
	is(t, pack(discuss.Talks(few, nil, l, names)), all([]api.Called{}, api.OK))
	is(t, pack(discuss.Talks(few, keys(api.MaxPapers), nil, keys(api.MaxPapers)))[1], api.OK)
}

// plainTalks asks for each reason by itself.
func plainTalks(r api.TalkRules, papers []string, l []api.Mark, replied []string) []api.Called {
	var called []api.Called
	for _, paper := range papers {
		s := scores(l, paper)
		var why []int
		if r.Spread > 0 && len(s) > 0 && slices.Max(s)-slices.Min(s) >= r.Spread {
			why = append(why, api.TalkSpread)
		}
		if len(s) > 0 && tenTimes(plainMean(s), r.Middle.From) >= 0 && tenTimes(plainMean(s), r.Middle.To) < 0 {
			why = append(why, api.TalkMiddle)
		}
		if len(s) < r.Few {
			why = append(why, api.TalkFew)
		}
		if r.Reply && slices.Contains(replied, paper) {
			why = append(why, api.TalkReply)
		}
		if why != nil {
			called = append(called, api.Called{Paper: paper, Why: why})
		}
	}
	return called
}

// talkRules are right ones.
func (d *dice) talkRules() api.TalkRules {
	to := d.below(102)
	return api.TalkRules{Spread: d.below(11), Middle: api.Window{From: d.below(to + 1), To: to}, Few: d.below(6), Reply: d.below(2) == 0}
}

// P7.1: Talks, compared with a plain version.
func TestTalksPlainly(t *testing.T) {
	d := dice(5)
	for range 1000 {
		r, names, l, replied := d.talkRules(), d.some(somePapers, 2), d.marks(t), d.some(somePapers, 2)
		is(t, pack(discuss.Talks(r, names, l, replied)), all(plainTalks(r, names, l, replied), api.OK))
	}
}

// talk is what Talks is given.
type talk struct {
	r               api.TalkRules
	papers, replied []string
	l               []api.Mark
}

// P7.1: the errors of Talks, in order.
func TestTalksErrors(t *testing.T) {
	check := func(x talk) api.Errno {
		l, e := discuss.Talks(x.r, x.papers, x.l, x.replied)
		is(t, e == api.OK || len(l) == 0, true)
		return e
	}
	right := api.TalkRules{Spread: api.MaxScore, Middle: api.Window{From: 101, To: 101}, Few: api.MaxEach + 1, Reply: true}
	x := talk{api.TalkRules{Spread: -1}, make([]string, api.MaxPapers+1), make([]string, api.MaxPapers+1), marks("P 11")}
	climb(t, x, check, []rung[talk]{
		{api.ErrArg, func(x *talk) { x.r = right }},
		{api.ErrLarge, func(x *talk) { x.papers = []string{"q", "p", "P"} }},
		{api.ErrOrder, func(x *talk) { x.papers = []string{"p", "p"} }},
		{api.ErrOrder, func(x *talk) { x.papers = []string{"p", "P", "a"} }},
		{api.ErrName, func(x *talk) { x.papers = []string{"p", "q"} }},
		{api.ErrName, func(x *talk) { x.l = marks("p 11") }},
		{api.ErrArg, func(x *talk) { x.l = marks("p 10") }},
		{api.ErrLarge, func(x *talk) { x.replied = []string{"q", "p", "P"} }},
		{api.ErrOrder, func(x *talk) { x.replied = []string{"p", "p"} }},
		{api.ErrOrder, func(x *talk) { x.replied = []string{"p", "P", "a"} }},
		{api.ErrName, func(x *talk) { x.replied = []string{"a", "p", "z"} }},
	})
	for _, wrong := range []func(*api.TalkRules){
		func(r *api.TalkRules) { r.Spread = -1 },
		func(r *api.TalkRules) { r.Spread = api.MaxScore + 1 },
		func(r *api.TalkRules) { r.Spread = math.MinInt },
		func(r *api.TalkRules) { r.Middle.From = -1 },
		func(r *api.TalkRules) { r.Middle.From = 102 },
		func(r *api.TalkRules) { r.Middle = api.Window{From: 51, To: 50} },
		func(r *api.TalkRules) { r.Middle = api.Window{From: 102, To: 102} },
		func(r *api.TalkRules) { r.Middle = api.Window{From: 0, To: math.MaxInt} },
		func(r *api.TalkRules) { r.Middle = api.Window{From: math.MinInt, To: -1} },
		func(r *api.TalkRules) { r.Few = -1 },
		func(r *api.TalkRules) { r.Few = api.MaxEach + 2 },
		func(r *api.TalkRules) { r.Few = math.MaxInt },
	} {
		r := right
		wrong(&r)
		is(t, check(talk{r: r}), api.ErrArg)
	}
	for _, key := range badKeys {
		is(t, check(talk{papers: []string{key}}), api.ErrName)
		is(t, check(talk{replied: []string{key}}), api.ErrName)
	}
}
