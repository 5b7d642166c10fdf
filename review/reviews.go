package review

import (
	"cmp"
	"slices"
	"strings"

	"rebuttal/api"
	"rebuttal/syntax"
)

// Check validates reviews.
func Check(s api.Setup, l []api.Review) api.Errno {
	_, e := newBook(s, l)
	return e
}

// Add adds a review.
func Add(s api.Setup, l []api.Review, r api.Review) ([]api.Review, api.Errno) {
	b, e := newBook(s, l)
	if e != api.OK {
		return nil, e
	}
	if len(l) == api.MaxReviews {
		return nil, api.ErrFull
	}
	r.No = len(l) + 1
	if e := b.checkReview(r, l); e != api.OK {
		return nil, e
	}
	all := slices.Concat(l, []api.Review{r})
	for i := range all {
		all[i] = clone(all[i])
	}
	return all, api.OK
}

// Merge are the reviews of two lists.
func Merge(s api.Setup, a, b []api.Review) ([]api.Review, api.Errno) {
	x, e := newSetup(s)
	if e != api.OK {
		return nil, e
	}
	for _, l := range [][]api.Review{a, b} {
		if e := x.check(l); e != api.OK {
			return nil, e
		}
	}
	all := slices.Concat(a, b)
	slices.SortFunc(all, x.sheet.compare)
	all = slices.CompactFunc(all, func(v, w api.Review) bool { return x.sheet.compare(v, w) == 0 })
	if len(all) > api.MaxReviews {
		return nil, api.ErrFull
	}
	for i := range all {
		all[i] = clone(all[i])
		all[i].No = i + 1
	}
	return all, api.OK
}

// Latest is the last review of a pair.
func Latest(s api.Setup, l []api.Review, p api.Pair, at int) (api.Review, bool, api.Errno) {
	b, e := newBook(s, l)
	if e != api.OK {
		return api.Review{}, false, e
	}
	if e := cmp.Or(b.checkPair(p), syntax.CheckMoment(at)); e != api.OK {
		return api.Review{}, false, e
	}
	r, there := b.latest(at)[p]
	return clone(r), there, api.OK
}

// book is the reviews of a setup.
type book struct {
	*setup
	reviews []api.Review
}

// newBook has the errors of Check.
func newBook(s api.Setup, l []api.Review) (*book, api.Errno) {
	x, e := newSetup(s)
	if e != api.OK {
		return nil, e
	}
	if e := x.check(l); e != api.OK {
		return nil, e
	}
	return &book{setup: x, reviews: l}, api.OK
}

// bookAt is the book at a moment, after the errors of both.
func bookAt(s api.Setup, l []api.Review, at int) (*book, api.Errno) {
	b, e := newBook(s, l)
	if e != api.OK {
		return nil, e
	}
	if e := syntax.CheckMoment(at); e != api.OK {
		return nil, e
	}
	return b, api.OK
}

// check validates reviews.
func (s *setup) check(l []api.Review) api.Errno {
	if len(l) > api.MaxReviews {
		return api.ErrLarge
	}
	for i, r := range l {
		if e := s.checkReview(r, l[:i]); e != api.OK {
			return e
		}
	}
	return api.OK
}

// checkReview validates a review that comes behind other ones.
func (s *setup) checkReview(r api.Review, before []api.Review) api.Errno {
	many := len(before)
	switch {
	case r.No != many+1 || !syntax.Moment(r.At):
		return api.ErrArg
	case many > 0 && r.At < before[many-1].At:
		return api.ErrOrder
	}
	if e := s.checkPair(pairOf(r)); e != api.OK {
		return e
	}
	switch {
	case r.By != "" && !syntax.Key(r.By):
		return api.ErrName
	case r.By == r.Person:
		return api.ErrLoop
	}
	if e := s.sheet.check(r.Answers); e != api.OK {
		return e
	}
	if r.Done && len(s.sheet.missing(r.Answers)) > 0 {
		return api.ErrForm
	}
	return api.OK
}

// valid are the valid reviews at a moment.
func (b *book) valid(at int) map[api.Pair]api.Review {
	return b.last(at, func(r api.Review) bool { return r.Done })
}

// latest are the last reviews at a moment, drafts too.
func (b *book) latest(at int) map[api.Pair]api.Review {
	return b.last(at, func(api.Review) bool { return true })
}

// last are the last reviews up to a moment, of those that count.
func (b *book) last(at int, counts func(api.Review) bool) map[api.Pair]api.Review {
	last := map[api.Pair]api.Review{}
	for _, r := range b.reviews {
		if r.At <= at && counts(r) {
			last[pairOf(r)] = r
		}
	}
	return last
}

// compare compares reviews by all but their Nos.
func (s *sheet) compare(v, w api.Review) int {
	order := cmp.Or(
		cmp.Compare(v.At, w.At),
		strings.Compare(v.Paper, w.Paper),
		strings.Compare(v.Person, w.Person),
		strings.Compare(v.By, w.By),
		compareDone(v.Done, w.Done),
	)
	if order != 0 {
		return order
	}
	// No answer's text begins another one's, so that one by one they compare as all of them together.
	return slices.CompareFunc(v.Answers, w.Answers, func(a, b api.Answer) int {
		if a == b {
			return 0
		}
		return strings.Compare(s.text(a), s.text(b))
	})
}

// compareDone puts drafts first.
func compareDone(a, b bool) int {
	switch {
	case a == b:
		return 0
	case b:
		return -1
	}
	return 1
}

func pairOf(r api.Review) api.Pair { return api.Pair{Paper: r.Paper, Person: r.Person} }

// clone is a review with a list of its own.
func clone(r api.Review) api.Review {
	r.Answers = slices.Clone(r.Answers)
	return r
}
