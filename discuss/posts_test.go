package discuss_test

import (
	"math"
	"slices"
	"strings"
	"testing"

	"rebuttal/api"
	"rebuttal/discuss"
)

// P7.4: posts that are right.
func TestCheckPosts(t *testing.T) {
	long := strings.Repeat("a", api.MaxPost-1) + "\n"
	for _, l := range [][]api.Post{
		nil,
		some(),
		lots(api.MaxPosts),
		{{No: 1, At: last, Paper: "p", Person: "kim", Words: long}, {No: 2, At: last, Paper: "p", Person: "kim", To: 1, Words: "\n"}},
	} {
		is(t, discuss.CheckPosts(example(), l), api.OK)
	}
}

// P7.4: the errors of posts, in order.
func TestCheckPostsErrors(t *testing.T) {
	check := func(l []api.Post) api.Errno { return discuss.CheckPosts(example(), l) }
	long := strings.Repeat("a", api.MaxPost)
	third := func(change func(*api.Post)) func(*[]api.Post) { return at(2, change) }
	climb(t, make([]api.Post, api.MaxPosts+1), check, []rung[[]api.Post]{
		{api.ErrLarge, func(l *[]api.Post) { *l = append(some()[:2], api.Post{At: -1}, api.Post{}) }},
		{api.ErrArg, third(func(p *api.Post) { p.No = 3 })},
		{api.ErrArg, third(func(p *api.Post) { p.At = api.End })},
		{api.ErrArg, third(func(p *api.Post) { p.At, p.To = 9, -1 })},
		{api.ErrOrder, third(func(p *api.Post) { p.At = 10 })},
		{api.ErrName, third(func(p *api.Post) { p.Paper = "p" })},
		{api.ErrName, third(func(p *api.Post) { p.Paper, p.Person = "P", "ann" })},
		{api.ErrName, third(func(p *api.Post) { p.Paper = "r" })},
		{api.ErrRule, third(func(p *api.Post) { p.Paper, p.Person = "p", "hal" })},
		{api.ErrRule, third(func(p *api.Post) { p.Person = "dee" })},
		{api.ErrRule, third(func(p *api.Post) { p.At, p.Person = 20, "ann" })},
		{api.ErrRule, third(func(p *api.Post) { p.At = 19 })},
		{api.ErrNone, third(func(p *api.Post) { p.To = 2 })},
		{api.ErrNone, third(func(p *api.Post) { p.To = 3 })},
		{api.ErrNone, third(func(p *api.Post) { p.To = 4 })},
		{api.ErrNone, third(func(p *api.Post) { p.To = math.MaxInt })},
		{api.ErrNone, third(func(p *api.Post) { p.To = math.MinInt })},
		{api.ErrNone, third(func(p *api.Post) { p.To = 1 })},
		{api.ErrForm, third(func(p *api.Post) { p.Words = long })},
		{api.ErrForm, third(func(p *api.Post) { p.Words = long + "\n" })},
		{api.ErrLarge, third(func(p *api.Post) { p.Words = long[1:] + "\n" })},
		{api.ErrArg, func(l *[]api.Post) { *l = (*l)[:3] }},
	})
	for _, no := range []int{0, 2, -1, math.MinInt, math.MaxInt} {
		is(t, check([]api.Post{{No: no, At: 10, Paper: "p", Person: "ann", Words: "a\n"}}), api.ErrArg)
	}
	for _, key := range badKeys {
		is(t, check([]api.Post{{No: 1, At: 10, Paper: key, Person: "ann", Words: "a\n"}}), api.ErrName)
		is(t, check([]api.Post{{No: 1, At: 10, Paper: "p", Person: key, Words: "a\n"}}), api.ErrName)
	}
	for _, n := range badMoments {
		is(t, check([]api.Post{{No: 1, At: n, Paper: "p", Person: "ann", Words: "a\n"}}), api.ErrArg)
	}
	for _, words := range badWords {
		is(t, check([]api.Post{{No: 1, At: 10, Paper: "p", Person: "ann", Words: words}}), api.ErrForm)
	}
}

// wrongPosts are posts with each of the errors.
func wrongPosts() map[api.Errno][]api.Post {
	return map[api.Errno][]api.Post{
		api.ErrLarge: make([]api.Post, api.MaxPosts+1),
		api.ErrArg:   {{}},
		api.ErrOrder: posts("11 p ann 0 a", "10 p ann 0 a"),
		api.ErrName:  posts("10 p Ann 0 a"),
		api.ErrRule:  posts("9 p ann 0 a"),
		api.ErrNone:  posts("10 p ann 1 a"),
		api.ErrForm:  posts("10 p ann 0 \t"),
	}
}

// P7.4: posts are added, with the next No.
func TestAdd(t *testing.T) {
	l := some()
	for i := range l {
		p := l[i]
		p.No = []int{0, p.No, -5, math.MaxInt}[i%4]
		is(t, pack(discuss.Add(example(), l[:i], p)), all(l[:i+1], api.OK))
	}
	add := func(l []api.Post) func(api.Post) api.Errno {
		return func(p api.Post) api.Errno {
			more, e := discuss.Add(example(), l, p)
			if e == api.OK {
				p.No = len(l) + 1
				is(t, more, append(slices.Clone(l), p))
			} else {
				is(t, more, []api.Post{})
			}
			return e
		}
	}
	climb(t, api.Post{At: -1}, add(l[:7]), []rung[api.Post]{
		{api.ErrArg, func(p *api.Post) { p.At = api.End }},
		{api.ErrArg, func(p *api.Post) { p.At = 18 }},
		{api.ErrOrder, func(p *api.Post) { p.At = 20 }},
		{api.ErrName, func(p *api.Post) { p.Paper = "p" }},
		{api.ErrName, func(p *api.Post) { p.Paper, p.Person = "", "ann" }},
		{api.ErrName, func(p *api.Post) { p.Paper = "p" }},
		{api.ErrRule, func(p *api.Post) { p.At, p.To = 30, 2 }},
		{api.ErrNone, func(p *api.Post) { p.To = 8 }},
		{api.ErrNone, func(p *api.Post) { p.To = -1 }},
		{api.ErrNone, func(p *api.Post) { p.To = 7 }},
		{api.ErrForm, func(p *api.Post) { p.Words = "a" }},
		{api.ErrForm, func(p *api.Post) { p.Words = strings.Repeat("a\n", api.MaxPost/2) + "\n" }},
		{api.ErrLarge, func(p *api.Post) { p.Words = "a\n" }},
	})
	bad := api.Post{At: -1}
	good := api.Post{At: 60, Paper: "p", Person: "ann", Words: "a\n"}
	is(t, add(lots(api.MaxPosts))(bad), api.ErrFull)
	is(t, add(lots(api.MaxPosts))(good), api.ErrFull)
	is(t, add(lots(api.MaxPosts-1))(bad), api.ErrArg)
	is(t, add(lots(api.MaxPosts-1))(good), api.OK)
	is(t, add(lots(api.MaxPosts+1))(good), api.ErrLarge)
	is(t, add(nil)(good), api.OK)
}

// lines are a No and a Deep each.
func lines(l ...[2]int) []api.Line {
	var lines []api.Line
	for _, x := range l {
		lines = append(lines, api.Line{No: x[0], Deep: x[1]})
	}
	return lines
}

// P7.4: threads.
func TestThread(t *testing.T) {
	for paper, want := range map[string][]api.Line{
		"p":   lines([2]int{1, 0}, [2]int{3, 1}, [2]int{7, 2}, [2]int{11, 3}, [2]int{6, 1}, [2]int{8, 1}, [2]int{4, 0}, [2]int{9, 1}),
		"q":   lines([2]int{2, 0}, [2]int{5, 1}, [2]int{10, 2}),
		"r":   nil,
		"x":   nil,
		"ann": nil,
	} {
		is(t, pack(discuss.Thread(example(), some(), paper)), all(want, api.OK))
	}
	is(t, pack(discuss.Thread(example(), nil, "p")), all([]api.Line{}, api.OK))
	var deep []api.Line
	for i := range api.MaxPosts {
		deep = append(deep, api.Line{No: i + 1, Deep: i})
	}
	is(t, pack(discuss.Thread(example(), lots(api.MaxPosts), "p")), all(deep, api.OK))
	for _, key := range badKeys {
		is(t, pack(discuss.Thread(example(), some(), key)), all([]api.Line{}, api.ErrName))
	}
}

// plainThread asks each post for those that answer it.
func plainThread(l []api.Post, paper string, to, deep int) []api.Line {
	var lines []api.Line
	for _, p := range l {
		if p.Paper == paper && p.To == to {
			lines = append(lines, api.Line{No: p.No, Deep: deep})
			lines = append(lines, plainThread(l, paper, p.No, deep+1)...)
		}
	}
	return lines
}

func plainSilent(b api.Board, l []api.Post, paper string) []string {
	var silent []string
	for _, p := range b.Pairs {
		spoke := slices.ContainsFunc(l, func(x api.Post) bool { return x.Paper == paper && x.Person == p.Person })
		if p.Paper == paper && !spoke {
			silent = append(silent, p.Person)
		}
	}
	return silent
}

func plainUnanswered(l []api.Post) []int {
	var nos []int
	for _, p := range l {
		answered := slices.ContainsFunc(l, func(x api.Post) bool { return x.To == p.No && x.Person != p.Person })
		if !answered {
			nos = append(nos, p.No)
		}
	}
	return nos
}

// P7.4: Thread, Silent and Unanswered, compared with plain versions.
func TestPostsPlainly(t *testing.T) {
	d := dice(17)
	for range 300 {
		b := d.board(t, 5)
		l := d.posts(t, b, 5)
		for _, paper := range somePapers {
			is(t, pack(discuss.Thread(b, l, paper)), all(plainThread(l, paper, 0, 0), api.OK))
			is(t, pack(discuss.Silent(b, l, paper)), all(plainSilent(b, l, paper), api.OK))
		}
		is(t, pack(discuss.Unanswered(b, l)), all(plainUnanswered(l), api.OK))
	}
}

// P7.4: readers who say nothing.
func TestSilent(t *testing.T) {
	for paper, want := range map[string][]string{"p": nil, "q": nil, "r": {"ann"}, "s": {"cid"}, "t": nil, "x": nil} {
		is(t, pack(discuss.Silent(example(), some(), paper)), all(want, api.OK))
	}
	is(t, pack(discuss.Silent(example(), some()[:4], "p")), all([]string{"bob"}, api.OK))
	is(t, pack(discuss.Silent(example(), some()[:4], "q")), all([]string{"hal"}, api.OK))
	is(t, pack(discuss.Silent(example(), nil, "p")), all([]string{"ann", "bob"}, api.OK))
	for _, key := range badKeys {
		is(t, pack(discuss.Silent(example(), some(), key)), all([]string{}, api.ErrName))
	}
}

// P7.4: posts that nobody else answers.
func TestUnanswered(t *testing.T) {
	// 5 is answered by the same person alone; 1 by others, and by the same one.
	is(t, pack(discuss.Unanswered(example(), some())), all([]int{5, 6, 8, 9, 10, 11}, api.OK))
	is(t, pack(discuss.Unanswered(example(), some()[:2])), all([]int{1, 2}, api.OK))
	is(t, pack(discuss.Unanswered(example(), nil)), all([]int{}, api.OK))
	alone := posts("10 p ann 0 a", "10 p ann 1 b", "10 p bob 2 c")
	is(t, pack(discuss.Unanswered(example(), alone)), all([]int{1, 3}, api.OK)) // 1 is not answered directly by bob
}
