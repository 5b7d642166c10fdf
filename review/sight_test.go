package review_test

import (
	"fmt"
	"math"
	"slices"
	"testing"

	"rebuttal/api"
	"rebuttal/review"
)

const last = api.End - 1

// P5.4: what somebody sees, and since when.
func TestLevelAndSince(t *testing.T) {
	for _, c := range []struct {
		who, pair    string
		level, since int // since: -1 for never
	}{
		// Authors: one who is a chair, one who is barred.
		{"ann", "p bob", api.SeeAuthor, 20_000},
		{"abe", "p cid", api.SeeAuthor, 20_000},
		{"bob", "q ann", api.SeeAuthor, 20_000},
		{"cid", "r bob", api.SeeAuthor, 20_000},
		// Who is barred: a chair, a person.
		{"dee", "p bob", api.SeeNone, -1},
		{"eve", "q cid", api.SeeNone, -1},
		{"ann", "r bob", api.SeeNone, -1},
		// Reviewers and chairs.
		{"bob", "p bob", api.SeeAll, 0},
		{"ann", "q ann", api.SeeAll, 0},
		{"ann", "q cid", api.SeeAll, 0},
		{"bob", "r bob", api.SeeAll, 0},
		{"gus", "p bob", api.SeeAll, 0},
		{"dee", "r bob", api.SeeAll, 0},
		// Other readers.
		{"bob", "p cid", api.SeePeer, 10},
		{"cid", "p bob", api.SeePeer, 60},
		{"cid", "q ann", api.SeeNone, -1},
		// Others, and who wrote reviews for readers.
		{"eve", "p bob", api.SeeNone, -1},
		{"fay", "p bob", api.SeeNone, -1},
		{"fay", "p cid", api.SeeNone, -1},
		{"cid", "q cid", api.SeeAll, 0},
		{"p", "p bob", api.SeeNone, -1},
	} {
		p := list(c.pair)[0]
		level := func(at int) any { return pack(review.Level(example(), some(), c.who, p, at)) }
		is(t, all(c.who, p, level(last)), all(c.who, p, pack(c.level, api.OK)))
		since := all(c.since, api.OK)
		if c.since < 0 {
			since = all(0, api.ErrNone)
		}
		is(t, all(c.who, p, pack(review.Since(example(), some(), c.who, p))), all(c.who, p, since))
		if c.since >= 0 {
			is(t, level(c.since), pack(c.level, api.OK))
		}
		if c.since > 0 {
			is(t, level(c.since-1), pack(api.SeeNone, api.OK))
			is(t, level(0), pack(api.SeeNone, api.OK))
		}
	}
}

// P5.4: authors see reviews from Reply on, with End never.
func TestReply(t *testing.T) {
	p := pair("p", "bob")
	for _, reply := range []int{0, 1, 5000, last, api.End} {
		s := example()
		s.Reply = reply
		since := all(reply, api.OK)
		if reply == api.End {
			since = all(0, api.ErrNone)
		}
		is(t, pack(review.Since(s, nil, "ann", p)), since)
		for _, at := range []int{0, reply - 1, reply, last} {
			if at < 0 || at > last {
				continue
			}
			want := api.SeeNone
			if at >= reply {
				want = api.SeeAuthor
			}
			is(t, pack(review.Level(s, nil, "ann", p, at)), all(want, api.OK))
		}
	}
}

// P5.4: the first review that is done counts, and no draft.
func TestPeers(t *testing.T) {
	p := pair("p", "cid")
	l := reviews("5 p bob - draft score=1", "6 p bob fay draft", "7 q ann - done score=1", "8 p bob fay done score=1", "9 p bob - done score=2", "10 p bob - draft")
	is(t, pack(review.Since(example(), l[:3], "bob", p)), all(0, api.ErrNone))
	is(t, pack(review.Level(example(), l[:3], "bob", p, last)), all(api.SeeNone, api.OK))
	for at, want := range map[int]int{0: api.SeeNone, 7: api.SeeNone, 8: api.SeePeer, 9: api.SeePeer, 10: api.SeePeer, last: api.SeePeer} {
		is(t, pack(review.Level(example(), l, "bob", p, at)), all(want, api.OK))
	}
	is(t, pack(review.Since(example(), l, "bob", p)), all(8, api.OK))
}

// P5.4: the errors of Level and Since.
func TestSightErrors(t *testing.T) {
	for _, key := range badKeys {
		is(t, pack(review.Level(example(), some(), key, pair("p", "ann"), -1)), all(0, api.ErrName))
		is(t, pack(review.Since(example(), some(), key, pair("p", "ann"))), all(0, api.ErrName))
	}
	for _, p := range list("p ann", "p dee", "q bob", "s bob", "bob p", "P bob", "") {
		for _, who := range []string{"ann", "gus", "x"} {
			is(t, pack(review.Level(example(), some(), who, p, -1)), all(0, api.ErrNone))
			is(t, pack(review.Since(example(), some(), who, p)), all(0, api.ErrNone))
		}
	}
	for _, at := range []int{-1, api.End, math.MinInt, math.MaxInt} {
		is(t, pack(review.Level(example(), some(), "gus", pair("p", "bob"), at)), all(0, api.ErrArg))
	}
}

// P5.4: what somebody sees of a paper.
func TestView(t *testing.T) {
	for _, c := range []struct {
		who, paper string
		at         int
		want       []string // with the No before it
	}{
		// The document's example: nothing before Reply, then all that are done, by their moments, without names and what is secret.
		{"ann", "p", 19_999, nil},
		{"ann", "p", 20_000, []string{"0 30 p reader-1 - done score=6 fit=no", "0 60 p reader-2 - done score=2 fit=maybe"}},
		{"abe", "p", last, []string{"0 30 p reader-1 - done score=6 fit=no", "0 60 p reader-2 - done score=2 fit=maybe"}},
		{"bob", "q", last, []string{"0 20 q reader-1 - done score=1 fit=yes"}},
		{"cid", "r", last, nil},
		// Chairs see all that is done, with who wrote it.
		{"gus", "p", 9, nil},
		{"gus", "p", 10, []string{"1 10 p bob - done score=7 note=no"}},
		{"gus", "p", 59, []string{"4 30 p bob fay done score=6 fit=no sure=99"}},
		{"gus", "p", 60, []string{"4 30 p bob fay done score=6 fit=no sure=99", "7 60 p cid fay done score=2 note=bad fit=maybe sure=0"}},
		{"gus", "q", last, []string{"3 20 q ann - done score=1 fit=yes"}},
		{"gus", "r", last, nil},
		// Readers see their own drafts, and when they are done, of others what is done, but not who wrote it.
		{"bob", "p", 9, nil},
		{"bob", "p", 10, []string{"1 10 p bob - done score=7 note=no"}},
		{"bob", "p", 49, []string{"4 30 p bob fay done score=6 fit=no sure=99"}},
		{"bob", "p", 60, []string{"6 50 p bob - draft note=hm", "7 60 p cid - done score=2 note=bad fit=maybe sure=0"}},
		{"cid", "p", 19, nil},
		{"cid", "p", 59, []string{"2 20 p cid fay draft"}},
		{"cid", "p", 60, []string{"4 30 p bob - done score=6 fit=no sure=99", "7 60 p cid fay done score=2 note=bad fit=maybe sure=0"}},
		{"cid", "q", last, []string{"5 40 q cid - draft score=3"}},
		{"bob", "r", last, nil},
		// A chair who reads.
		{"ann", "q", 19, nil},
		{"ann", "q", last, []string{"3 20 q ann - done score=1 fit=yes"}},
		// Who is barred, and others.
		{"dee", "p", last, nil},
		{"ann", "r", last, nil},
		{"fay", "p", last, nil},
		{"x", "p", last, nil},
	} {
		var want []api.Review
		for _, line := range c.want {
			r := reviews(line[2:])[0]
			r.No = number(line[:1])
			want = append(want, r)
		}
		is(t, all(c.who, c.paper, c.at, pack(review.View(example(), some(), c.who, c.paper, c.at))), all(c.who, c.paper, c.at, all(want, api.OK)))
	}
}

// P5.4: authors see reviews in the order in which they came, not in that of their readers.
func TestViewOfAuthors(t *testing.T) {
	s := example()
	s.Pairs = nil
	var l []api.Review
	readers := keys(12)
	for i, key := range readers {
		s.Pairs = append(s.Pairs, pair("q", key))
		l = append(l, api.Review{No: i + 1, At: 5 + i/4, Paper: "q", Person: readers[len(readers)-1-i], By: "fay", Done: true, Answers: answers(fmt.Sprintf("score=%d", i%10), "note=x")})
	}
	var want []api.Review
	for i, r := range l {
		want = append(want, api.Review{At: r.At, Paper: "q", Person: fmt.Sprintf("reader-%d", i+1), Done: true, Answers: r.Answers[:1]})
	}
	is(t, pack(review.View(s, l, "bob", "q", 20_000)), all(want, api.OK))
	// A draft that comes later changes nothing, a review that is done comes last.
	l = append(l, api.Review{No: 13, At: 8, Paper: "q", Person: readers[3]}, api.Review{No: 14, At: 8, Paper: "q", Person: readers[11], Done: true, Answers: answers("score=9", "note=y")})
	want = append(want[1:], api.Review{At: 8, Paper: "q", Done: true, Answers: answers("score=9")})
	for i := range want {
		want[i].Person = fmt.Sprintf("reader-%d", i+1)
	}
	is(t, pack(review.View(s, l, "bob", "q", 20_000)), all(want, api.OK))
	// What is secret may be all that there is.
	s.Sheet[0].Secret = true
	seen, e := review.View(s, l, "bob", "q", 20_000)
	is(t, all(seen, e), all(noAnswers(want), api.OK))
}

// P5.4: the errors of View.
func TestViewErrors(t *testing.T) {
	for _, key := range badKeys {
		is(t, pack(review.View(example(), some(), key, "s", -1)), all([]api.Review{}, api.ErrName))
	}
	for _, paper := range []string{"s", "", "P", "bob"} {
		is(t, pack(review.View(example(), some(), "gus", paper, -1)), all([]api.Review{}, api.ErrNone))
	}
	for _, at := range []int{-1, api.End, math.MinInt, math.MaxInt} {
		is(t, pack(review.View(example(), some(), "gus", "p", at)), all([]api.Review{}, api.ErrArg))
	}
}

// plainLevel goes through the rules as the document has them.
func plainLevel(s api.Setup, l []api.Review, who string, p api.Pair, at int) int {
	for _, x := range s.Papers {
		if x.Id == p.Paper && slices.Contains(x.Authors, who) {
			if at >= s.Reply {
				return api.SeeAuthor
			}
			return api.SeeNone
		}
	}
	own := pair(p.Paper, who)
	if slices.Contains(s.Barred, own) {
		return api.SeeNone
	}
	if who == p.Person || slices.Contains(s.Chairs, who) {
		return api.SeeAll
	}
	if slices.Contains(s.Pairs, own) && plainLast(l, own, at, true) != nil {
		return api.SeePeer
	}
	return api.SeeNone
}

// plainLast is the last review of a pair, or the last one that is done, if there is one.
func plainLast(l []api.Review, p api.Pair, at int, done bool) *api.Review {
	for i := len(l) - 1; i >= 0; i-- {
		r := l[i]
		if r.Paper == p.Paper && r.Person == p.Person && r.At <= at && (r.Done || !done) {
			return &r
		}
	}
	return nil
}

// plainView takes reviews in the order of their Nos if they are for authors, otherwise in that of pairs.
func plainView(s api.Setup, l []api.Review, who, paper string, at int) []api.Review {
	byNo := map[int]api.Review{}
	for i, p := range s.Pairs {
		level := plainLevel(s, l, who, p, at)
		r := plainLast(l, p, at, p.Person != who)
		if p.Paper != paper || level == api.SeeNone || r == nil {
			continue
		}
		place := i
		if level < api.SeeAll {
			r.By = ""
		}
		if level == api.SeeAuthor {
			place = r.No
			open := []api.Answer{}
			for _, q := range s.Sheet {
				for _, a := range r.Answers {
					if a.Question == q.Key && !q.Secret {
						open = append(open, a)
					}
				}
			}
			r.Answers = open
		}
		byNo[place] = *r
	}
	var seen []api.Review
	for i := range 1000 {
		r, there := byNo[i]
		if !there {
			continue
		}
		if slices.Contains(s.Papers[slices.Index(someIds, paper)].Authors, who) {
			r.No, r.Person = 0, fmt.Sprintf("reader-%d", len(seen)+1)
		}
		seen = append(seen, r)
	}
	return seen
}

// P5.3, P5.4: Latest, Level, Since and View are what the document says, and what follows: with more time no Level is less, and who is barred, and no author, sees nothing.
func TestSightPlain(t *testing.T) {
	d := dice(3)
	moments := []int{}
	for at := range 26 {
		moments = append(moments, at)
	}
	moments = append(moments, last)
	found := map[int]int{}
	for range 200 {
		s := d.setup(t)
		l := d.reviews(t, s, 12)
		for _, p := range s.Pairs {
			for _, at := range moments {
				r, there, e := review.Latest(s, l, p, at)
				want := plainLast(l, p, at, false)
				is(t, all(there, e), all(want != nil, api.OK))
				if want != nil {
					is(t, r, *want)
				}
			}
			for _, who := range append(somePeople, "x") {
				since, least := -1, 0
				for _, at := range moments {
					level, e := review.Level(s, l, who, p, at)
					is(t, all(level, e), all(plainLevel(s, l, who, p, at), api.OK))
					found[level]++
					if since < 0 && level != api.SeeNone {
						since = at
					}
					is(t, level >= least, true)
					least = level
				}
				if since < 0 {
					is(t, pack(review.Since(s, l, who, p)), all(0, api.ErrNone))
				} else {
					is(t, pack(review.Since(s, l, who, p)), all(since, api.OK))
				}
			}
		}
		for _, who := range append(somePeople, "x") {
			for _, id := range someIds {
				at := d.below(26)
				is(t, pack(review.View(s, l, who, id, at)), all(plainView(s, l, who, id, at), api.OK))
			}
		}
	}
	for level := range 4 {
		is(t, found[level] > 1000, true)
	}
}
