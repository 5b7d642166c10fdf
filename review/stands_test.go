package review_test

import (
	"math"
	"slices"
	"strings"
	"testing"

	"rebuttal/api"
	"rebuttal/review"
)

// P5.5: how far reviews are.
func TestStands(t *testing.T) {
	for _, c := range []struct {
		due, at int
		want    []int // of p bob, p cid, q ann, q cid, r bob
	}{
		{10_000, 0, []int{api.StandNone, api.StandNone, api.StandNone, api.StandNone, api.StandNone}},
		{10_000, 10, []int{api.StandDone, api.StandNone, api.StandNone, api.StandNone, api.StandNone}},
		{10_000, 20, []int{api.StandDone, api.StandDraft, api.StandDone, api.StandNone, api.StandNone}},
		{10_000, 59, []int{api.StandDone, api.StandDraft, api.StandDone, api.StandDraft, api.StandNone}},
		{10_000, 9_999, []int{api.StandDone, api.StandDone, api.StandDone, api.StandDraft, api.StandNone}},
		{10_000, 10_000, []int{api.StandDone, api.StandDone, api.StandDone, api.StandLate, api.StandLate}},
		{10_000, last, []int{api.StandDone, api.StandDone, api.StandDone, api.StandLate, api.StandLate}},
		{59, 58, []int{api.StandDone, api.StandDraft, api.StandDone, api.StandDraft, api.StandNone}},
		{59, 59, []int{api.StandDone, api.StandLate, api.StandDone, api.StandLate, api.StandLate}},
		{59, 60, []int{api.StandDone, api.StandDone, api.StandDone, api.StandLate, api.StandLate}},
		{0, 0, []int{api.StandLate, api.StandLate, api.StandLate, api.StandLate, api.StandLate}},
		{api.End, last, []int{api.StandDone, api.StandDone, api.StandDone, api.StandDraft, api.StandNone}},
	} {
		s := example()
		s.Due = c.due
		var want []api.Stand
		for i, p := range s.Pairs {
			want = append(want, api.Stand{Pair: p, State: c.want[i]})
		}
		is(t, pack(review.Stands(s, some(), c.at)), all(want, api.OK))
	}
	none := example()
	none.Pairs = nil
	is(t, pack(review.Stands(none, nil, 0)), all([]api.Stand{}, api.OK))
	wrongMoments(t, func(at int) []any { return pack(review.Stands(example(), some(), at)) })
}

// wrongMoments gives a function moments that are none.
func wrongMoments(t *testing.T, call func(int) []any) {
	t.Helper()
	for _, at := range []int{-1, api.End, math.MinInt, math.MaxInt} {
		r := call(at)
		is(t, r[len(r)-1], api.ErrArg)
	}
}

// P5.5: who is reminded.
func TestNudges(t *testing.T) {
	open := list("q cid", "r bob")
	const day = api.DayLong
	for _, c := range []struct {
		days []int
		at   int
		want []api.Pair
	}{
		{[]int{1}, 10_000 - day, open},
		{[]int{1}, 10_000 - day + 1, nil},
		{[]int{1}, 10_000 - day - 1, nil},
		{[]int{1}, 10_000, nil},
		{[]int{0}, 10_000, open},
		{[]int{-1}, 10_000 + day, open},
		{[]int{-1}, 10_000 - day, nil},
		{[]int{6, 3, -2, 3, 0}, 10_000 - 3*day, open},
		{[]int{6, 3, -2, 3, 0}, 10_000 + 2*day, open},
		{[]int{6, 3, -2, 3, 0}, 10_000 - 2*day, nil},
		{[]int{6, 3, -2, 3, 0}, 10_000 - 6*day, open},
		{nil, 10_000, nil},
		{[]int{api.MaxDay, -api.MaxDay}, 0, nil},
		{slices.Repeat([]int{1}, api.MaxNudges), 10_000 - day, open},
	} {
		is(t, pack(review.Nudges(example(), some(), c.days, c.at)), all(c.want, api.OK))
	}
	s := example()
	s.Due = 2*day + 15
	// At 15 p cid has nothing yet, and q ann, too; then p cid has a draft.
	is(t, pack(review.Nudges(s, some(), []int{2}, 15)), all(list("p cid", "q ann", "q cid", "r bob"), api.OK))
	s.Due = 2*day + 25
	is(t, pack(review.Nudges(s, some(), []int{2}, 25)), all(list("p cid", "q cid", "r bob"), api.OK))
	s.Due = api.End
	is(t, pack(review.Nudges(s, some(), []int{api.MaxDay}, api.End-api.MaxDay*day)), all(open, api.OK))
	s.Due = 0
	is(t, pack(review.Nudges(s, some(), []int{-api.MaxDay}, api.MaxDay*day)), all(open, api.OK))
	call := func(days []int) api.Errno {
		_, e := review.Nudges(example(), some(), days, 0)
		return e
	}
	climb(t, append(make([]int, api.MaxNudges), math.MinInt), call, []rung[[]int]{
		{api.ErrLarge, func(l *[]int) { *l = []int{0, math.MinInt} }},
		{api.ErrArg, func(l *[]int) { (*l)[1] = math.MaxInt }},
		{api.ErrArg, func(l *[]int) { (*l)[1] = api.MaxDay + 1 }},
		{api.ErrArg, func(l *[]int) { (*l)[1] = -api.MaxDay - 1 }},
		{api.ErrArg, func(l *[]int) { (*l)[1] = api.MaxDay }},
	})
	wrongMoments(t, func(at int) []any { return pack(review.Nudges(example(), some(), make([]int, 99), at)) })
}

// P5.5: papers with enough reviews.
func TestFull(t *testing.T) {
	for _, c := range []struct {
		many, at int
		want     string
	}{
		{0, 0, "p q r"}, {1, 9, ""}, {1, 10, "p"}, {1, 20, "p q"}, {2, 59, ""}, {2, 60, "p"}, {1, last, "p q"}, {3, last, ""}, {api.MaxEach, last, ""},
	} {
		is(t, pack(review.Full(example(), some(), c.many, c.at)), all(strings.Fields(c.want), api.OK))
	}
	for _, many := range []int{-1, api.MaxEach + 1, math.MinInt, math.MaxInt} {
		is(t, pack(review.Full(example(), some(), many, 0)), all([]string{}, api.ErrArg))
	}
	wrongMoments(t, func(at int) []any { return pack(review.Full(example(), some(), 0, at)) })
	s := example()
	s.Pairs = nil
	var l []api.Review
	for i, key := range keys(api.MaxEach) {
		s.Pairs = append(s.Pairs, pair("q", key))
		l = append(l, api.Review{No: i + 1, At: i, Paper: "q", Person: key, Done: true, Answers: answers("score=0")})
	}
	is(t, pack(review.Full(s, l, api.MaxEach, api.MaxEach-2)), all([]string{}, api.OK))
	is(t, pack(review.Full(s, l, api.MaxEach, api.MaxEach-1)), all([]string{"q"}, api.OK))
}

// mark is the score of a pair.
func mark(p string, score int) api.Mark { return api.Mark{Pair: list(p)[0], Score: score} }

// P5.5: scores as marks.
func TestMarks(t *testing.T) {
	s := example()
	s.Sheet[3].Most = api.MaxScore
	l := some()
	l[3].Answers[2].Number = 9
	for _, c := range []struct {
		question string
		at       int
		want     []api.Mark
	}{
		{"score", 9, nil},
		{"score", 10, []api.Mark{mark("p bob", 7)}},
		{"score", 29, []api.Mark{mark("p bob", 7), mark("q ann", 1)}},
		{"score", 30, []api.Mark{mark("p bob", 6), mark("q ann", 1)}},
		{"score", last, []api.Mark{mark("p bob", 6), mark("p cid", 2), mark("q ann", 1)}},
		{"sure", 29, nil},
		{"sure", 30, []api.Mark{mark("p bob", 9)}},
		{"sure", last, []api.Mark{mark("p bob", 9), mark("p cid", 0)}},
	} {
		is(t, pack(review.Marks(s, l, c.question, c.at)), all(c.want, api.OK))
	}
	s.Sheet[3].Most = api.MaxScore + 1
	for question, want := range map[string]api.Errno{"x": api.ErrNone, "": api.ErrNone, "Score": api.ErrNone, "yes": api.ErrNone, "note": api.ErrType, "fit": api.ErrType, "sure": api.ErrType, "score": api.ErrArg} {
		is(t, all(question, pack(review.Marks(s, l, question, -1))), all(question, all([]api.Mark{}, want)))
	}
	wrongMoments(t, func(at int) []any { return pack(review.Marks(s, l, "score", at)) })
}

// P5.5: how many reviews have each option.
func TestOptions(t *testing.T) {
	more := append(some(), api.Review{No: 8, At: 70, Paper: "p", Person: "bob", Done: true, Answers: answers("score=1", "fit=maybe")})
	more = append(more, api.Review{No: 9, At: 80, Paper: "p", Person: "bob", Done: true, Answers: answers("score=1")})
	for _, c := range []struct {
		paper string
		at    int
		want  []int // yes, no, maybe
	}{
		{"p", 0, []int{0, 0, 0}},
		{"p", 29, []int{0, 0, 0}},
		{"p", 30, []int{0, 1, 0}},
		{"p", 60, []int{0, 1, 1}},
		{"p", 70, []int{0, 0, 2}},
		{"p", 80, []int{0, 0, 1}},
		{"q", 19, []int{0, 0, 0}},
		{"q", last, []int{1, 0, 0}},
		{"r", last, []int{0, 0, 0}},
	} {
		is(t, pack(review.Options(example(), more, "fit", c.paper, c.at)), all(c.want, api.OK))
	}
	for question, want := range map[string]api.Errno{"x": api.ErrNone, "": api.ErrNone, "yes": api.ErrNone, "note": api.ErrType, "score": api.ErrType} {
		is(t, all(question, pack(review.Options(example(), some(), question, "x", -1))), all(question, all([]int{}, want)))
	}
	for _, paper := range []string{"s", "", "P", "bob"} {
		is(t, pack(review.Options(example(), some(), "fit", paper, -1)), all([]int{}, api.ErrNone))
	}
	wrongMoments(t, func(at int) []any { return pack(review.Options(example(), some(), "fit", "p", at)) })
}

// P5.5: who wrote for others.
func TestHelpers(t *testing.T) {
	l := reviews(
		"1 p bob fay draft score=1",
		"2 p bob fay done score=1",
		"3 p cid fay done score=1",
		"4 q cid fay done score=1",
		"5 q ann abe done score=1",
		"6 p bob - draft",
		"7 r bob x draft",
		"8 q ann zoe done score=1",
		"9 p bob - done score=1",
		"10 q cid - done score=1",
	)
	help := func(by string, papers int) api.Help { return api.Help{By: by, Papers: papers} }
	for at, want := range map[int][]api.Help{
		0:    nil,
		1:    nil,
		2:    {help("fay", 1)},
		3:    {help("fay", 1)},
		4:    {help("fay", 2)},
		5:    {help("abe", 1), help("fay", 2)},
		7:    {help("abe", 1), help("fay", 2)},
		8:    {help("fay", 2), help("zoe", 1)},
		9:    {help("fay", 2), help("zoe", 1)},
		last: {help("fay", 1), help("zoe", 1)},
	} {
		is(t, pack(review.Helpers(example(), l, at)), all(want, api.OK))
	}
	wrongMoments(t, func(at int) []any { return pack(review.Helpers(example(), l, at)) })
}

// P5.5: who wrote, and must not.
func TestWrong(t *testing.T) {
	l := reviews(
		"1 p bob dee draft", // barred
		"2 r bob dee draft",
		"3 p bob ann done score=1", // author
		"4 p bob - draft",
		"5 q cid eve draft", // barred
		"6 p cid eve draft",
		"7 p cid abe draft", // both
		"8 q cid bob draft", // author
		"8 r bob cid draft", // author
		"9 p bob cid draft",
		"9 q ann p draft",
		"9 r bob ann draft", // barred
	)
	is(t, pack(review.Wrong(example(), l)), all([]int{1, 3, 5, 7, 8, 9, 12}, api.OK))
	is(t, pack(review.Wrong(example(), some())), all([]int{}, api.OK))
}

// P5.5: all of it is what the document says.
func TestStandsPlain(t *testing.T) {
	d := dice(5)
	for range 1000 {
		s := d.setup(t)
		l := d.reviews(t, s, 12)
		at, many := d.below(26), d.below(4)
		var stands []api.Stand
		var late []api.Pair
		var marks []api.Mark
		valid := map[string]int{}
		fits := map[string]int{}
		for _, p := range s.Pairs {
			state := api.StandNone
			if plainLast(l, p, at, false) != nil {
				state = api.StandDraft
			}
			if at >= s.Due {
				state = api.StandLate
			}
			if r := plainLast(l, p, at, true); r != nil {
				state = api.StandDone
				valid[p.Paper]++
				for _, a := range r.Answers {
					if a.Question == "score" {
						marks = append(marks, api.Mark{Pair: p, Score: a.Number})
					}
					fits[p.Paper+a.Option]++
				}
			}
			stands = append(stands, api.Stand{Pair: p, State: state})
			if state != api.StandDone {
				late = append(late, p)
			}
		}
		is(t, pack(review.Stands(s, l, at)), all(stands, api.OK))
		is(t, pack(review.Marks(s, l, "score", at)), all(marks, api.OK))
		var full []string
		for _, id := range someIds {
			if valid[id] >= many {
				full = append(full, id)
			}
			is(t, pack(review.Options(s, l, "fit", id, at)), all([]int{fits[id+"yes"], fits[id+"no"], fits[id+"maybe"]}, api.OK))
		}
		is(t, pack(review.Full(s, l, many, at)), all(full, api.OK))
		s.Due = at + d.below(3)*api.DayLong
		is(t, pack(review.Nudges(s, l, []int{(s.Due - at) / api.DayLong}, at)), all(late, api.OK))
		is(t, pack(review.Nudges(s, l, []int{3}, at)), all([]api.Pair{}, api.OK))
	}
}
