package topic_test

import (
	"cmp"
	"math"
	"slices"
	"strings"
	"testing"

	"rebuttal/api"
	"rebuttal/topic"
)

// P3.5: CheckReaders.
func TestCheckReaders(t *testing.T) {
	l := bakery()
	is(t, topic.CheckReaders(nil, nil), api.OK)
	is(t, topic.CheckReaders(l, []api.Reader{reader("ann"), reader("bo", "art", 1, "cake", 100)}), api.OK)
	var r []api.Reader
	for _, key := range keys(api.MaxReaders) {
		r = append(r, reader(key, "cake", 1))
	}
	is(t, topic.CheckReaders(l, r), api.OK)
	check := func(r []api.Reader) api.Errno { return topic.CheckReaders(l, r) }
	many := make([]api.Skill, api.MaxTopics+1)
	climb(t, append(r, reader("B")), check, []rung[[]api.Reader]{
		{api.ErrLarge, func(r *[]api.Reader) { *r = []api.Reader{reader("b"), reader("A", "x", 1), reader("")} }},
		{api.ErrName, func(r *[]api.Reader) { (*r)[1].Key = "a" }},
		{api.ErrOrder, func(r *[]api.Reader) { (*r)[1].Key = "b" }},
		{api.ErrOrder, func(r *[]api.Reader) { (*r)[1] = api.Reader{Key: "c", Skills: many} }},
		{api.ErrLarge, func(r *[]api.Reader) { (*r)[1] = reader("c", "x", 0) }},
		{api.ErrNone, func(r *[]api.Reader) { (*r)[1] = reader("c", "art", 1, "art", 0) }},
		{api.ErrOrder, func(r *[]api.Reader) { (*r)[1] = reader("c", "art", 1, "cake", 0) }},
		{api.ErrArg, func(r *[]api.Reader) { (*r)[1] = reader("c", "art", 1) }},
		{api.ErrName, func(r *[]api.Reader) { (*r)[2].Key = "d" }},
	})
	for _, s := range badKeys {
		is(t, all(s, topic.CheckReaders(l, []api.Reader{reader(s)})), all(s, api.ErrName))
	}
}

// P3.5: CheckBids.
func TestCheckBids(t *testing.T) {
	is(t, topic.CheckBids(nil), api.OK)
	is(t, topic.CheckBids([]api.Bid{bid("p", "a", api.BidNo), bid("p", "b", api.BidMaybe), bid("q", "a", api.BidYes), bid("q", "b", api.BidEager)}), api.OK)
	var b []api.Bid
	for _, key := range keys(api.MaxBids) {
		b = append(b, bid("p", key, api.BidNo))
	}
	is(t, topic.CheckBids(b), api.OK)
	climb(t, append(b, bid("", "", 0)), topic.CheckBids, []rung[[]api.Bid]{
		{api.ErrLarge, func(b *[]api.Bid) { *b = []api.Bid{bid("p", "b", 1), bid("A", "B", 0), bid("", "", 0)} }},
		{api.ErrName, func(b *[]api.Bid) { (*b)[1].Paper = "o" }},
		{api.ErrName, func(b *[]api.Bid) { (*b)[1].Person = "c" }},
		{api.ErrOrder, func(b *[]api.Bid) { (*b)[1].Paper = "p"; (*b)[1].Person = "a" }},
		{api.ErrOrder, func(b *[]api.Bid) { (*b)[1].Person = "b" }},
		{api.ErrOrder, func(b *[]api.Bid) { (*b)[1].Paper = "q"; (*b)[1].Person = "a" }},
		{api.ErrKind, func(b *[]api.Bid) { (*b)[1].Level = 5 }},
		{api.ErrKind, func(b *[]api.Bid) { (*b)[1].Level = -1 }},
		{api.ErrKind, func(b *[]api.Bid) { (*b)[1].Level = math.MaxInt }},
		{api.ErrKind, func(b *[]api.Bid) { (*b)[1].Level = math.MinInt }},
		{api.ErrKind, func(b *[]api.Bid) { (*b)[1].Level = api.BidEager }},
		{api.ErrName, func(b *[]api.Bid) { *b = (*b)[:2] }},
	})
	for _, s := range badKeys {
		is(t, all(s, topic.CheckBids([]api.Bid{bid(s, "a", 1)})), all(s, api.ErrName))
		is(t, all(s, topic.CheckBids([]api.Bid{bid("p", s, 1)})), all(s, api.ErrName))
	}
}

// P3.5: Worth.
func TestWorth(t *testing.T) {
	for _, c := range []struct {
		num, den int
		worths   [5]int // by level
	}{
		{0, 1, [5]int{}},
		{1, 1, [5]int{500_000, 0, 600_000, 800_000, 1_000_000}},
		{3, 4, [5]int{375_000, 0, 450_000, 600_000, 750_000}},
		{2, 3, [5]int{333_333, 0, 400_000, 533_333, 666_666}},
		{1, api.MaxDen, [5]int{}},
		{api.MaxDen - 1, api.MaxDen, [5]int{499_999, 0, 599_999, 799_999, 999_999}},
		{1, 999_999, [5]int{0, 0, 0, 0, 1}},
	} {
		for level, worth := range c.worths {
			is(t, pack(topic.Worth(api.Fraction{Num: c.num, Den: c.den}, level)), all(worth, api.OK))
		}
	}
	for _, level := range []int{math.MinInt, -1, 5, math.MaxInt} {
		is(t, pack(topic.Worth(half(), level)), all(0, api.ErrKind))
		is(t, pack(topic.Worth(api.Fraction{Num: 3, Den: 2}, level)), all(0, api.ErrArg))
		for _, f := range badFractions {
			is(t, all(f, pack(topic.Worth(f, level))), all(f, all(0, api.ErrForm)))
		}
	}
	is(t, pack(topic.Worth(api.Fraction{Num: api.MaxDen, Den: 1}, api.BidNo)), all(0, api.ErrArg))
	is(t, pack(topic.Worth(api.Fraction{Num: 2, Den: 1}, api.BidNo)), all(0, api.ErrArg))
}

// baking is papers, readers and bids of the bakery.
func baking() fair {
	return fair{
		l:      bakery(),
		papers: []api.Paper{paper("p", "zoe", "cake rolls"), paper("q", "ann", "art"), paper("r", "bo", "")},
		r:      []api.Reader{reader("ann", "cake", 100), reader("bo"), reader("cid", "art", 50, "bread", 100)},
		b: []api.Bid{
			bid("p", "ann", api.BidYes), bid("p", "bo", api.BidEager),
			bid("q", "ann", api.BidEager), bid("q", "cid", api.BidMaybe),
			bid("r", "cid", api.BidNo),
		},
	}
}

// P3.5: Worths.
func TestWorths(t *testing.T) {
	x := baking()
	is(t, pack(topic.Worths(x.l, x.papers, x.r, x.b)), all([][]int{{600_000, 0, 333_333}, {0, 0, 300_000}, {0, 0, 0}}, api.OK))
	x.b[0].Level = api.BidNo
	x.b[3] = bid("q", "cid", api.BidYes)
	is(t, pack(topic.Worths(x.l, x.papers, x.r, x.b)), all([][]int{{0, 0, 333_333}, {0, 0, 400_000}, {0, 0, 0}}, api.OK))
	is(t, pack(topic.Worths(x.l, x.papers, nil, nil)), all([][]int{{}, {}, {}}, api.OK))
	is(t, pack(topic.Worths(x.l, nil, x.r, nil)), all([][]int{}, api.OK))
	is(t, pack(topic.Worths(nil, nil, nil, nil)), all([][]int{}, api.OK))
}

// P3.5: Best.
func TestBest(t *testing.T) {
	x := baking()
	for _, c := range []struct {
		id   string
		many int
		want []string
	}{
		{"p", 1, []string{"ann"}},
		{"p", 2, []string{"ann", "cid"}},
		{"p", api.MaxReaders, []string{"ann", "cid"}},
		{"q", 2, []string{"cid"}},
		{"r", 5, nil},
	} {
		is(t, pack(topic.Best(x.l, x.papers, x.r, x.b, c.id, c.many)), all(c.want, api.OK))
	}
	// Equal ones by Key.
	x.r = []api.Reader{reader("a", "bread", 1), reader("b", "rolls", 100), reader("c", "cake", 100), reader("d", "bread", 100), reader("e", "cake", 100)}
	x.b = nil
	is(t, pack(topic.Best(x.l, x.papers, x.r, x.b, "p", 9)), all([]string{"b", "c", "e", "d", "a"}, api.OK))
	is(t, pack(topic.Best(x.l, x.papers, x.r, x.b, "p", 2)), all([]string{"b", "c"}, api.OK))
	var many []api.Reader
	for _, key := range keys(api.MaxReaders) {
		many = append(many, reader(key, "cake", 9))
	}
	is(t, pack(topic.Best(x.l, x.papers, many, x.b, "p", api.MaxReaders)), all(keys(api.MaxReaders), api.OK))
	for _, many := range []int{math.MinInt, -1, 0, api.MaxReaders + 1, math.MaxInt} {
		is(t, pack(topic.Best(x.l, x.papers, x.r, x.b, "p", many)), all([]string{}, api.ErrArg))
		for _, id := range []string{"", "o", "P", "z", "art"} {
			is(t, pack(topic.Best(x.l, x.papers, x.r, x.b, id, many)), all([]string{}, api.ErrNone))
		}
	}
}

// errors are those of all functions with papers and readers, whose own arguments are wrong, but for Worths.
func (x fair) errors(t *testing.T) api.Errno {
	t.Helper()
	w, e := topic.Worths(x.l, x.papers, x.r, x.b)
	if e != api.OK {
		is(t, w, [][]int{})
	}
	want := e
	if e == api.OK {
		want = api.ErrNone
	}
	is(t, pack(topic.Best(x.l, x.papers, x.r, x.b, "", 0)), all([]string{}, want))
	if e == api.OK {
		want = api.ErrArg
	}
	is(t, pack(topic.Odd(x.l, x.papers, x.r, x.b, 0)), all([]api.OddBids{}, want))
	if _, e := topic.Worths(x.l, x.papers, x.r, nil); e == api.OK {
		want = api.ErrArg
	}
	is(t, pack(topic.Uncovered(x.l, x.papers, x.r, 0)), all([]string{}, want))
	is(t, pack(topic.Lack(x.l, x.papers, x.r, 0)), all([]api.Short{}, want))
	return e
}

// P3.5 and P3.6: the errors of all with papers and readers.
func TestFairErrors(t *testing.T) {
	p := func(id string, topics ...string) api.Paper {
		return api.Paper{Id: id, Track: "t", Title: "T", Authors: []string{"zoe"}, Topics: topics}
	}
	x := fair{
		l:      topics("b", "b"),
		papers: []api.Paper{p("p", "x"), p("q", keys(9)...), p("")},
		r:      []api.Reader{reader("")},
		b:      []api.Bid{bid("", "", 0)},
	}
	climb(t, x, func(x fair) api.Errno { return x.errors(t) }, []rung[fair]{
		{api.ErrOrder, func(x *fair) { x.l = manyTopics(9) }},
		{api.ErrName, func(x *fair) { x.papers[2].Id = "o" }},
		{api.ErrOrder, func(x *fair) { x.papers[2].Id = "r" }},
		{api.ErrNone, func(x *fair) { x.papers[0].Topics = append(keys(9), "x") }},
		{api.ErrLarge, func(x *fair) { x.papers[0].Topics = append(keys(7), "x") }},
		{api.ErrNone, func(x *fair) { x.papers[0].Topics = keys(8) }},
		{api.ErrLarge, func(x *fair) { x.papers[1].Topics = []string{"k0009"} }},
		{api.ErrNone, func(x *fair) { x.papers[1].Topics = keys(1) }},
		{api.ErrName, func(x *fair) { x.r = slices.Repeat(x.r, api.MaxReaders+1) }},
		{api.ErrLarge, func(x *fair) { x.r = []api.Reader{reader("ann", "k0003", 0)} }},
		{api.ErrArg, func(x *fair) { x.r = []api.Reader{reader("ann"), reader("bo")} }},
		{api.ErrName, func(x *fair) { x.b = slices.Repeat(x.b, api.MaxBids+1) }},
		{api.ErrLarge, func(x *fair) { x.b = []api.Bid{bid("p", "cid", 1), bid("x", "ann", 1), bid("x", "bo", 0)} }},
		{api.ErrKind, func(x *fair) { x.b[2].Level = 1 }},
		{api.ErrNone, func(x *fair) { x.b[0].Person = "bo" }},
		{api.ErrNone, func(x *fair) { x.b[1].Paper = "q" }},
		{api.ErrNone, func(x *fair) { x.b = x.b[:2] }},
	})
	// A bid of a person who is an author, and no reader.
	x.b = []api.Bid{bid("p", "zoe", 1)}
	x.l, x.papers, x.r = manyTopics(9), []api.Paper{p("p")}, []api.Reader{reader("ann")}
	is(t, x.errors(t), api.ErrNone)
}

// gives are what the levels give.
func gives(level int) int {
	return map[int]int{api.BidNone: 500_000, api.BidNo: 0, api.BidMaybe: 600_000, api.BidYes: 800_000, api.BidEager: 1_000_000}[level]
}

func (x fair) level(p api.Paper, r api.Reader) int {
	for _, b := range x.b {
		if b.Paper == p.Id && b.Person == r.Key {
			return b.Level
		}
	}
	return api.BidNone
}

// P3.5: Worths and Best, compared with plain versions.
func TestWorthsPlain(t *testing.T) {
	d := dice(17)
	for range 150 {
		x := d.fair(t)
		worths := [][]int{}
		for _, p := range x.papers {
			row := []int{}
			var best []api.Level
			for _, r := range x.r {
				affinity := plainAffinity(x.l, r.Skills, p.Topics)
				n := floor(affinity, gives(x.level(p, r)))
				is(t, pack(topic.Worth(fraction(affinity), x.level(p, r))), all(n, api.OK))
				row = append(row, n)
				if n > 0 {
					best = append(best, api.Level{Key: r.Key, Level: n})
				}
			}
			worths = append(worths, row)
			slices.SortFunc(best, func(a, b api.Level) int {
				return cmp.Or(cmp.Compare(b.Level, a.Level), strings.Compare(a.Key, b.Key))
			})
			many := 1 + d.below(4)
			want := []string{}
			for _, b := range best[:min(many, len(best))] {
				want = append(want, b.Key)
			}
			is(t, pack(topic.Best(x.l, x.papers, x.r, x.b, p.Id, many)), all(want, api.OK))
		}
		is(t, pack(topic.Worths(x.l, x.papers, x.r, x.b)), all(worths, api.OK))
	}
}
