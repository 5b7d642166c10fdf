package discuss

import (
	"slices"

	"rebuttal/api"
	"rebuttal/syntax"
)

// CheckPosts validates posts.
func CheckPosts(b api.Board, l []api.Post) api.Errno {
	x, e := newBoard(b)
	if e != api.OK {
		return e
	}
	return x.check(l)
}

// Add adds a post.
func Add(b api.Board, l []api.Post, p api.Post) ([]api.Post, api.Errno) {
	x, e := newBoard(b)
	if e != api.OK {
		return nil, e
	}
	if e := x.check(l); e != api.OK {
		return nil, e
	}
	if len(l) == api.MaxPosts {
		return nil, api.ErrFull
	}
	p.No = len(l) + 1
	if e := x.checkPost(p, l); e != api.OK {
		return nil, e
	}
	return slices.Concat(l, []api.Post{p}), api.OK
}

// Thread are the posts of a paper, each one ahead of those that answer it.
func Thread(b api.Board, l []api.Post, paper string) ([]api.Line, api.Errno) {
	if e := checkPostsOf(b, l, paper); e != api.OK {
		return nil, e
	}
	below := map[int][]int{} // by what they answer
	for _, p := range l {
		if p.Paper == paper {
			below[p.To] = append(below[p.To], p.No)
		}
	}
	var lines []api.Line
	var add func(to, deep int)
	add = func(to, deep int) {
		for _, no := range below[to] {
			lines = append(lines, api.Line{No: no, Deep: deep})
			add(no, deep+1)
		}
	}
	add(0, 0)
	return lines, api.OK
}

// Silent are the readers of a paper who say nothing of it.
func Silent(b api.Board, l []api.Post, paper string) ([]string, api.Errno) {
	if e := checkPostsOf(b, l, paper); e != api.OK {
		return nil, e
	}
	spoke := map[api.Pair]bool{}
	for _, p := range l {
		spoke[pairOf(p)] = true
	}
	var silent []string
	for _, p := range b.Pairs {
		if p.Paper == paper && !spoke[p] {
			silent = append(silent, p.Person)
		}
	}
	return silent, api.OK
}

// Unanswered are the posts that nobody else answers.
func Unanswered(b api.Board, l []api.Post) ([]int, api.Errno) {
	if e := CheckPosts(b, l); e != api.OK {
		return nil, e
	}
	answered := map[int]bool{}
	for _, p := range l {
		if p.To != 0 && p.Person != l[p.To-1].Person {
			answered[p.To] = true
		}
	}
	var unanswered []int
	for _, p := range l {
		if !answered[p.No] {
			unanswered = append(unanswered, p.No)
		}
	}
	return unanswered, api.OK
}

// checkPostsOf validates posts, and the name of a paper.
func checkPostsOf(b api.Board, l []api.Post, paper string) api.Errno {
	if e := CheckPosts(b, l); e != api.OK {
		return e
	}
	return syntax.CheckKey(paper)
}

// check validates posts.
func (b *board) check(l []api.Post) api.Errno {
	if len(l) > api.MaxPosts {
		return api.ErrLarge
	}
	for i, p := range l {
		if e := b.checkPost(p, l[:i]); e != api.OK {
			return e
		}
	}
	return api.OK
}

// checkPost validates a post that comes behind other ones.
func (b *board) checkPost(p api.Post, before []api.Post) api.Errno {
	many := len(before)
	switch {
	case p.No != many+1 || !syntax.Moment(p.At):
		return api.ErrArg
	case many > 0 && p.At < before[many-1].At:
		return api.ErrOrder
	case !syntax.Key(p.Paper) || !syntax.Key(p.Person):
		return api.ErrName
	case !b.may(pairOf(p), p.At):
		return api.ErrRule
	case p.To != 0 && !answers(p, before):
		return api.ErrNone
	}
	return checkWords(p.Words, api.MaxPost)
}

// answers reports whether a post answers one of those before it.
func answers(p api.Post, before []api.Post) bool {
	return p.To >= 1 && p.To <= len(before) && before[p.To-1].Paper == p.Paper
}

func pairOf(p api.Post) api.Pair { return api.Pair{Paper: p.Paper, Person: p.Person} }
