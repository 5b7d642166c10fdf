package review

import (
	"cmp"
	"slices"
	"strconv"

	"rebuttal/api"
	"rebuttal/pairs"
	"rebuttal/syntax"
)

// Level is what somebody sees of the review of a pair at a moment.
func Level(s api.Setup, l []api.Review, who string, p api.Pair, at int) (int, api.Errno) {
	b, e := newBook(s, l)
	if e != api.OK {
		return 0, e
	}
	if e := cmp.Or(syntax.CheckKey(who), b.checkPair(p), syntax.CheckMoment(at)); e != api.OK {
		return 0, e
	}
	return b.level(who, p, at), api.OK
}

// Since is the least moment at which somebody sees something.
func Since(s api.Setup, l []api.Review, who string, p api.Pair) (int, api.Errno) {
	b, e := newBook(s, l)
	if e != api.OK {
		return 0, e
	}
	if e := cmp.Or(syntax.CheckKey(who), b.checkPair(p)); e != api.OK {
		return 0, e
	}
	_, since := b.sight(who, p)
	if since == api.End {
		return 0, api.ErrNone
	}
	return since, api.OK
}

// View is what somebody sees of a paper at a moment.
func View(s api.Setup, l []api.Review, who, paper string, at int) ([]api.Review, api.Errno) {
	b, e := newBook(s, l)
	if e != api.OK {
		return nil, e
	}
	if e := cmp.Or(syntax.CheckKey(who), b.checkPaper(paper), syntax.CheckMoment(at)); e != api.OK {
		return nil, e
	}
	valid, latest := b.valid(at), b.latest(at)
	var seen []api.Review
	for _, p := range b.Pairs {
		if p.Paper != paper {
			continue
		}
		reviews := valid
		if p.Person == who {
			reviews = latest
		}
		r, there := reviews[p]
		level := b.level(who, p, at)
		if there && level != api.SeeNone {
			seen = append(seen, b.shown(r, level))
		}
	}
	if b.wrote(api.Pair{Paper: paper, Person: who}) {
		hideReaders(seen)
	}
	return seen, api.OK
}

// sight is the most that somebody ever sees of the review of a pair, and from when on. Before that they see nothing; End stands for never.
func (b *book) sight(who string, p api.Pair) (int, int) {
	own := api.Pair{Paper: p.Paper, Person: who}
	switch {
	case b.wrote(own):
		return api.SeeAuthor, b.Reply
	case pairs.Has(b.Barred, own):
		return api.SeeNone, api.End
	case p == own || slices.Contains(b.Chairs, who):
		return api.SeeAll, 0
	}
	return api.SeePeer, b.firstDone(own)
}

func (b *book) level(who string, p api.Pair, at int) int {
	level, since := b.sight(who, p)
	if at < since {
		return api.SeeNone
	}
	return level
}

// firstDone is the first moment at which a pair has a valid review, or End. Whoever does not read the paper has none.
func (b *book) firstDone(p api.Pair) int {
	i := slices.IndexFunc(b.reviews, func(r api.Review) bool { return r.Done && pairOf(r) == p })
	if i < 0 {
		return api.End
	}
	return b.reviews[i].At
}

// shown is what a level, which is not SeeNone, leaves of a review.
func (b *book) shown(r api.Review, level int) api.Review {
	r = clone(r)
	if level != api.SeeAll {
		r.By = ""
	}
	if level == api.SeeAuthor {
		r.Answers = slices.DeleteFunc(r.Answers, func(a api.Answer) bool {
			q, _ := b.sheet.question(a.Question)
			return q.Secret
		})
	}
	return r
}

// hideReaders puts reviews in the order in which they came, and leaves only their places in it.
func hideReaders(l []api.Review) {
	// No rises with At.
	slices.SortFunc(l, func(a, b api.Review) int { return cmp.Compare(a.No, b.No) })
	for i := range l {
		l[i].No, l[i].Person = 0, "reader-"+strconv.Itoa(i+1)
	}
}
