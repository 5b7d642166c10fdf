package review_test

import (
	"cmp"
	"fmt"
	"math"
	"slices"
	"strings"
	"testing"

	"rebuttal/api"
	"rebuttal/review"
)

// P5.2: what is right with reviews.
func TestCheck(t *testing.T) {
	for _, l := range [][]api.Review{
		nil,
		some(),
		reviews("0 p bob - draft", "0 p bob abe draft", fmt.Sprint(api.End-1, " r bob cid done score=0")),
		lots(api.MaxReviews),
	} {
		is(t, review.Check(example(), l), api.OK)
	}
}

// lots are so many drafts at different moments.
func lots(n int) []api.Review {
	var l []api.Review
	for i := range n {
		l = append(l, api.Review{No: i + 1, At: i, Paper: "p", Person: "bob"})
	}
	return l
}

// P5.2: the errors of reviews, in order.
func TestCheckErrors(t *testing.T) {
	check := func(l []api.Review) api.Errno { return review.Check(example(), l) }
	second := func(change func(*api.Review)) func(*[]api.Review) {
		return func(l *[]api.Review) { change(&(*l)[1]) }
	}
	l := append(lots(api.MaxReviews), api.Review{})
	l[0].No = 0
	climb(t, l, check, []rung[[]api.Review]{
		{api.ErrLarge, func(l *[]api.Review) { *l = []api.Review{{At: -1}, {}, {}} }},
		{api.ErrArg, func(l *[]api.Review) { (*l)[0].No = 2 }},
		{api.ErrArg, func(l *[]api.Review) { (*l)[0].No = 1 }},
		{api.ErrArg, func(l *[]api.Review) { (*l)[0].At = api.End }},
		{api.ErrArg, func(l *[]api.Review) { (*l)[0].At = 5 }},
		{api.ErrNone, func(l *[]api.Review) { (*l)[0] = reviews("5 p bob - draft")[0] }},
		{api.ErrArg, second(func(r *api.Review) { r.No = 1 })},
		{api.ErrArg, second(func(r *api.Review) { r.No, r.At = 2, math.MinInt })},
		{api.ErrArg, second(func(r *api.Review) { r.At = math.MaxInt })},
		{api.ErrArg, second(func(r *api.Review) { r.At = 4 })},
		{api.ErrOrder, second(func(r *api.Review) { r.At, r.By = 5, "B" })},
		{api.ErrNone, second(func(r *api.Review) { r.Paper, r.Person = "p", "dee" })},
		{api.ErrNone, second(func(r *api.Review) { r.Paper, r.Person = "q", "bob" })},
		{api.ErrNone, second(func(r *api.Review) { r.Paper, r.Person = "s", "bob" })},
		{api.ErrNone, second(func(r *api.Review) { r.Paper = "p" })},
		{api.ErrName, second(func(r *api.Review) { r.By, r.Answers = "bob", answers("x=1") })},
		{api.ErrLoop, second(func(r *api.Review) { r.By, r.Done = "ann", true })},
		{api.ErrNone, second(func(r *api.Review) { r.Answers = answers("sure=101") })},
		{api.ErrArg, second(func(r *api.Review) { r.Answers = make([]api.Answer, api.MaxQuestions+1) })},
		{api.ErrLarge, second(func(r *api.Review) { r.Answers = answers("note=a", "fit=yes", "sure=1") })},
		{api.ErrForm, second(func(r *api.Review) { r.Answers = answers("score=1") })},
		{api.ErrArg, func(l *[]api.Review) { *l = (*l)[:2] }},
	})
	for _, key := range badKeys[1:] {
		is(t, check([]api.Review{{No: 1, Paper: "p", Person: "bob", By: key}}), api.ErrName)
	}
}

// P5.2: all functions return the error of the setup first, then that of the reviews.
func TestErrorsOfSetupsAndReviews(t *testing.T) {
	wrong := inputs{l: []api.Review{{}}, other: []api.Review{{}}, r: api.Review{At: -1}, who: "?", question: "?", paper: "?", at: -1, many: -1, days: []int{9999}, text: "?"}
	for want, s := range wrongSetups() {
		wrong.s = s
		is(t, review.CheckSetup(s), want)
		for name, r := range wrong.ofSetups() {
			if r[len(r)-1] != want {
				t.Error(name, show(r), want)
			}
		}
	}
	wrong.s = example()
	for want, l := range map[api.Errno][]api.Review{
		api.ErrArg:   {{}},
		api.ErrLarge: make([]api.Review, api.MaxReviews+1),
		api.ErrOrder: reviews("5 p bob - draft", "4 p bob - draft"),
		api.ErrNone:  reviews("5 p ann - draft"),
		api.ErrName:  reviews("5 p bob ? draft"),
		api.ErrLoop:  reviews("5 p bob bob draft"),
		api.ErrForm:  reviews("5 p bob - done"),
	} {
		wrong.l = l
		for name, r := range wrong.ofReviews() {
			if r[len(r)-1] != want {
				t.Error(name, fmt.Sprint(r), want)
			}
		}
	}
}

// P5.2: reviews are added, with the next No.
func TestAdd(t *testing.T) {
	l := some()
	for i := range l {
		r := l[i]
		r.No = []int{0, r.No, -5, math.MaxInt}[i%4]
		is(t, pack(review.Add(example(), l[:i], r)), all(l[:i+1], api.OK))
	}
	add := func(l []api.Review) func(api.Review) api.Errno {
		return func(r api.Review) api.Errno {
			more, e := review.Add(example(), l, r)
			if e == api.OK {
				r.No = len(l) + 1
				is(t, more, append(slices.Clone(l), r))
			}
			return e
		}
	}
	climb(t, api.Review{At: -1}, add(l), []rung[api.Review]{
		{api.ErrArg, func(r *api.Review) { r.At = api.End }},
		{api.ErrArg, func(r *api.Review) { r.At = 59 }},
		{api.ErrOrder, func(r *api.Review) { r.At = 60 }},
		{api.ErrNone, func(r *api.Review) { r.Paper, r.Person, r.By = "r", "bob", "B" }},
		{api.ErrName, func(r *api.Review) { r.By = "bob" }},
		{api.ErrLoop, func(r *api.Review) { r.By, r.Done, r.Answers = "", true, answers("score=11") }},
		{api.ErrArg, func(r *api.Review) { r.Answers = answers("sure=1") }},
		{api.ErrForm, func(r *api.Review) { r.Answers = answers("score=1") }},
	})
	r := api.Review{At: -1, Paper: "p", Person: "bob"}
	is(t, add(lots(api.MaxReviews))(r), api.ErrFull)
	is(t, add(lots(api.MaxReviews-1))(r), api.ErrArg)
	r.At = api.MaxReviews - 1
	is(t, add(lots(api.MaxReviews-1))(r), api.OK)
	is(t, add(nil)(r), api.OK)
}

// numbered are reviews with the Nos 1, 2 and so on.
func numbered(l ...api.Review) []api.Review {
	l = slices.Clone(l)
	for i := range l {
		l[i].No = i + 1
	}
	return l
}

// P5.2: two lists are one.
func TestMerge(t *testing.T) {
	is(t, pack(review.Merge(example(), some(), some())), all(some(), api.OK))
	is(t, pack(review.Merge(example(), nil, nil)), all([]api.Review{}, api.OK))
	// Each one comes before the next one.
	want := reviews(
		"4 q cid - draft score=1",
		"5 p bob - done score=9",
		"5 p bob abe draft",
		"5 p bob abe draft score=0",
		"5 p bob abe draft score=0 fit=no",
		"5 p bob abe draft score=0 note=x",
		"5 p bob abe draft score=1",
		"5 p bob abe draft score=10",
		"5 p bob abe draft score=9",
		"5 p bob abe draft note=a",
		"5 p bob abe done score=0",
		"5 p bob dee draft",
		"5 p cid - draft",
		"5 p cid abe draft",
		"5 q ann - draft",
		"6 p bob - draft",
	)
	for i := range want {
		is(t, pack(review.Merge(example(), want[:i], numbered(want[i:]...))), all(want, api.OK))
		is(t, pack(review.Merge(example(), numbered(want[i:]...), want[:i])), all(want, api.OK))
	}
	back := slices.Clone(want)
	slices.Reverse(back)
	slices.SortStableFunc(back, func(a, b api.Review) int { return cmp.Compare(a.At, b.At) })
	is(t, pack(review.Merge(example(), numbered(back...), nil)), all(want, api.OK))
	is(t, pack(review.Merge(example(), nil, numbered(append(back, back[len(back)-1])...))), all(want, api.OK))
}

// P5.2: the words of answers are compared as they are in Text.
func TestMergeWords(t *testing.T) {
	var want []api.Review
	for _, words := range []string{"\n", "!\n", "a\n", "a \n", "b\n", "\n\n", "\na\n", " \n\n", "a\n\n", "a\na\n", strings.Repeat("\n", 10), "a\n" + strings.Repeat("\n", 9), "\n\n\n"} {
		want = append(want, api.Review{Paper: "p", Person: "bob", Answers: []api.Answer{{Question: "note", Words: words}}})
	}
	// 10 lines come before 2 and 3.
	slices.SortFunc(want, func(a, b api.Review) int { return strings.Compare(plainAnswers(a.Answers), plainAnswers(b.Answers)) })
	is(t, want[5].Answers[0].Words, strings.Repeat("\n", 10))
	back := slices.Clone(want)
	slices.Reverse(back)
	is(t, pack(review.Merge(example(), numbered(back...), nil)), all(numbered(want...), api.OK))
}

// plainAnswers are answers as the document says that they are in Text.
func plainAnswers(l []api.Answer) string {
	s := ""
	for _, a := range l {
		switch {
		case a.Words != "":
			lines := strings.SplitAfter(a.Words, "\n")
			lines = lines[:len(lines)-1]
			s += fmt.Sprintf("words %s %d\n", a.Question, len(lines))
			for _, line := range lines {
				s += "|" + line
			}
		case a.Option != "":
			s += fmt.Sprintf("choice %s %s\n", a.Question, a.Option)
		default:
			s += fmt.Sprintf("score %s %d\n", a.Question, a.Number)
		}
	}
	return s
}

// P5.2: what cannot be merged.
func TestMergeErrors(t *testing.T) {
	wrong := reviews("5 p ann - draft")
	is(t, pack(review.Merge(example(), wrong, lots(api.MaxReviews+1))), all([]api.Review{}, api.ErrNone))
	is(t, pack(review.Merge(example(), some(), lots(api.MaxReviews+1))), all([]api.Review{}, api.ErrLarge))
	is(t, pack(review.Merge(example(), lots(api.MaxReviews), wrong)), all([]api.Review{}, api.ErrNone))
	is(t, pack(review.Merge(example(), lots(api.MaxReviews), some()[:1])), all([]api.Review{}, api.ErrFull))
	is(t, pack(review.Merge(example(), lots(api.MaxReviews), lots(api.MaxReviews))), all(lots(api.MaxReviews), api.OK))
	last := reviews(fmt.Sprint(api.MaxReviews-1, " p bob - draft"))
	is(t, pack(review.Merge(example(), lots(api.MaxReviews-1), last)), all(lots(api.MaxReviews), api.OK))
	is(t, pack(review.Merge(example(), lots(api.MaxReviews), last)), all(lots(api.MaxReviews), api.OK))
	// Equal ones of one list are one, too.
	same := numbered(slices.Repeat(some()[:1], 5)...)
	is(t, pack(review.Merge(example(), same, nil)), all(some()[:1], api.OK))
	full, e := review.Merge(example(), lots(api.MaxReviews-1), same)
	is(t, all(len(full), e), all(api.MaxReviews, api.OK))
}

// P5.2: what is merged does not depend on the order, and merging again changes nothing.
func TestMergeOrder(t *testing.T) {
	d := dice(7)
	for range 500 {
		s := d.setup(t)
		a, b, c := d.reviews(t, s, 8), d.reviews(t, s, 8), d.reviews(t, s, 8)
		merge := func(a, b []api.Review) []api.Review {
			l, e := review.Merge(s, a, b)
			is(t, all(e, review.Check(s, l)), all(api.OK, api.OK))
			return l
		}
		ab := merge(a, b)
		is(t, ab, plainMerge(a, b))
		is(t, merge(b, a), ab)
		is(t, merge(ab, c), merge(a, merge(c, b)))
		is(t, merge(ab, a), ab)
	}
}

// plainMerge writes each review so that the strings have the order of the document.
func plainMerge(a, b []api.Review) []api.Review {
	known := map[string]api.Review{}
	for _, r := range slices.Concat(a, b) {
		known[fmt.Sprintf("%09d %s\x00%s\x00%s\x00%t\x00%s", r.At, r.Paper, r.Person, r.By, r.Done, plainAnswers(r.Answers))] = r
	}
	var names []string
	for name := range known {
		names = append(names, name)
	}
	slices.Sort(names)
	var l []api.Review
	for _, name := range names {
		l = append(l, known[name])
	}
	return numbered(l...)
}

// P5.3: the last review of a pair.
func TestLatest(t *testing.T) {
	l := some()
	for _, c := range []struct {
		pair   string
		at, no int
	}{
		{"p bob", 9, 0}, {"p bob", 10, 1}, {"p bob", 29, 1}, {"p bob", 30, 4}, {"p bob", 49, 4}, {"p bob", 50, 6}, {"p bob", api.End - 1, 6},
		{"p cid", 19, 0}, {"p cid", 20, 2}, {"p cid", 59, 2}, {"p cid", 60, 7},
		{"q ann", 19, 0}, {"q ann", 20, 3}, {"q cid", 39, 0}, {"q cid", 40, 5}, {"r bob", api.End - 1, 0},
	} {
		r, there, e := review.Latest(example(), l, list(c.pair)[0], c.at)
		is(t, all(e, there), all(api.OK, c.no > 0))
		if c.no > 0 {
			is(t, r, l[c.no-1])
		} else {
			is(t, r, api.Review{})
		}
	}
	// Of equal moments the greatest No.
	same := reviews("5 p bob - done score=1", "5 p bob - draft score=2", "5 p bob - done score=3", "5 p cid - draft")
	is(t, pack3(review.Latest(example(), same, pair("p", "bob"), 5)), all(same[2], true, api.OK))
	for _, p := range append(list("p ann", "p dee", "q bob", "s bob", "bob p", "P bob"), api.Pair{}) {
		is(t, pack3(review.Latest(example(), l, p, -1)), all(api.Review{}, false, api.ErrNone))
	}
	for _, at := range []int{-1, api.End, math.MinInt, math.MaxInt} {
		is(t, pack3(review.Latest(example(), l, pair("p", "bob"), at)), all(api.Review{}, false, api.ErrArg))
	}
}
