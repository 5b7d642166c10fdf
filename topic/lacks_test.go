package topic_test

import (
	"math"
	"math/big"
	"slices"
	"testing"

	"rebuttal/api"
	"rebuttal/topic"
)

// notPercents are not from 1 to 100.
var notPercents = []int{math.MinInt, -1, 0, 101, math.MaxInt}

// P3.6: Uncovered.
func TestUncovered(t *testing.T) {
	x := baking()
	for _, c := range []struct {
		r     []api.Reader
		least int
		want  []string
	}{
		{nil, 1, []string{"art", "cake", "rolls"}},
		{[]api.Reader{reader("ann")}, 1, []string{"art", "cake", "rolls"}},
		{x.r, 50, nil},
		{x.r, 51, []string{"art"}},
		{x.r, 66, []string{"art"}},
		{x.r, 67, []string{"art", "rolls"}},
		{x.r, 100, []string{"art", "rolls"}},
		{x.r[:1], 1, []string{"art"}},
		{x.r[:1], 51, []string{"art", "rolls"}},
		// What is below a percent by less than a whole number is below it: 99 * 2/3 is 66, 98 * 2/3 is 65 and a third, 100 * 2/3 is above 66.
		{[]api.Reader{reader("ann", "art", 100, "bread", 99)}, 66, nil},
		{[]api.Reader{reader("ann", "art", 100, "bread", 98)}, 66, []string{"cake", "rolls"}},
		{[]api.Reader{reader("ann", "art", 100, "bread", 100)}, 67, []string{"cake", "rolls"}},
		// No two readers count together.
		{[]api.Reader{reader("ann", "cake", 30), reader("bo", "cake", 30)}, 31, []string{"art", "cake", "rolls"}},
	} {
		is(t, all(c.least, pack(topic.Uncovered(x.l, x.papers, c.r, c.least))), all(c.least, all(c.want, api.OK)))
	}
	for _, n := range notPercents {
		is(t, pack(topic.Uncovered(x.l, x.papers, x.r, n)), all([]string{}, api.ErrArg))
	}
	is(t, pack(topic.Uncovered(x.l, nil, nil, 1)), all([]string{}, api.OK))
}

// P3.6: Lack.
func TestLack(t *testing.T) {
	x := baking()
	x.papers = append(x.papers, paper("s", "zoe", "art cake"), paper("t", "zoe", "cake"))
	x.r = []api.Reader{reader("a", "art", 50, "bread", 100), reader("b", "art", 49, "cake", 50), reader("c", "art", 100, "cake", 100), reader("d", "cake", 51)}
	for each, want := range map[int][]api.Short{
		1:  {{Topic: "rolls", Papers: 1, Readers: 0}},
		2:  {{Topic: "art", Papers: 2, Readers: 2}, {Topic: "cake", Papers: 3, Readers: 3}, {Topic: "rolls", Papers: 1, Readers: 0}},
		20: {{Topic: "art", Papers: 2, Readers: 2}, {Topic: "cake", Papers: 3, Readers: 3}, {Topic: "rolls", Papers: 1, Readers: 0}},
	} {
		is(t, all(each, pack(topic.Lack(x.l, x.papers, x.r, each))), all(each, all(want, api.OK)))
	}
	is(t, pack(topic.Lack(x.l, x.papers[:1], []api.Reader{reader("a", "cake", 50, "rolls", 50), reader("b", "cake", 50)}, 2)), all([]api.Short{{Topic: "rolls", Papers: 1, Readers: 1}}, api.OK))
	for _, each := range []int{math.MinInt, -1, 0, 21, math.MaxInt} {
		is(t, pack(topic.Lack(x.l, x.papers, x.r, each)), all([]api.Short{}, api.ErrArg))
	}
	is(t, pack(topic.Lack(x.l, nil, x.r, 1)), all([]api.Short{}, api.OK))
}

// P3.6: Odd.
func TestOdd(t *testing.T) {
	l := bakery()
	// With bread 90 the Affinities are 0.9, 0.6, 0.3, 0 and 0; of nobody's skills all are 0.
	papers := []api.Paper{paper("a", "zoe", "bread"), paper("b", "zoe", "cake"), paper("c", "zoe", "art cake"), paper("d", "zoe", "art"), paper("e", "zoe", "")}
	knows, nothing := reader("ann", "bread", 90), reader("bo")
	no, maybe, yes, eager := api.BidNo, api.BidMaybe, api.BidYes, api.BidEager
	for _, c := range []struct {
		levels    [5]int
		percent   int
		high, low int // of ann; both 0: she is not odd
	}{
		{[5]int{}, 50, 0, 0},
		{[5]int{maybe, maybe, maybe, maybe, maybe}, 100, 0, 0},
		{[5]int{yes, yes, yes, yes, eager}, 50, 3, 0},
		{[5]int{yes, yes, yes, yes, eager}, 33, 2, 0},
		{[5]int{yes, yes, yes, yes, eager}, 34, 3, 0},
		{[5]int{yes, yes, yes, yes, eager}, 66, 3, 0},
		{[5]int{yes, eager, yes, yes, eager}, 67, 4, 0},
		{[5]int{yes, yes, yes, yes, eager}, 100, 4, 0},
		{[5]int{eager, maybe, no, no, 0}, 1, 0, 0},
		{[5]int{no, no, no, no, no}, 1, 0, 3},
		{[5]int{no, no, no, 0, 0}, 33, 0, 3},
		{[5]int{no, no, no, 0, 0}, 34, 0, 0},
		{[5]int{no, no, 0, 0, yes}, 34, 1, 2},
		{[5]int{no, 0, 0, 0, eager}, 100, 1, 1},
		{[5]int{0, 0, 0, yes, no}, 100, 1, 0},
	} {
		for _, r := range []api.Reader{knows, nothing} {
			var b []api.Bid
			var noes int
			for i, level := range c.levels {
				if level != api.BidNone {
					b = append(b, bid(papers[i].Id, r.Key, level))
				}
				if level == no {
					noes++
				}
			}
			var want []api.OddBids
			switch {
			case r.Key == "ann" && c.high+c.low > 0:
				want = []api.OddBids{{Person: "ann", High: c.high, Low: c.low}}
			case r.Key == "bo" && noes > 2:
				// Nothing is less than a greatest one of 0.
				want = []api.OddBids{{Person: "bo", High: 0, Low: noes}}
			}
			got := pack(topic.Odd(l, papers, []api.Reader{knows, nothing}, b, c.percent))
			is(t, all(c.levels, c.percent, got), all(c.levels, c.percent, all(want, api.OK)))
		}
	}
	// Half of all papers is not more than half.
	b := []api.Bid{bid("a", "ann", no), bid("b", "ann", no)}
	is(t, pack(topic.Odd(l, papers[:4], []api.Reader{knows}, b, 1)), all([]api.OddBids{}, api.OK))
	is(t, pack(topic.Odd(l, papers[:3], []api.Reader{knows}, b, 1)), all([]api.OddBids{{Person: "ann", Low: 2}}, api.OK))
	for _, n := range notPercents {
		is(t, pack(topic.Odd(l, papers, []api.Reader{knows}, b, n)), all([]api.OddBids{}, api.ErrArg))
	}
	is(t, pack(topic.Odd(l, nil, []api.Reader{knows, nothing}, nil, 1)), all([]api.OddBids{}, api.OK))
}

// P3.6: Uncovered, Lack and Odd, compared with plain versions.
func TestLacksPlain(t *testing.T) {
	d := dice(19)
	odd := 0
	for range 200 {
		x := d.fair(t)
		least, each, percent := 1+d.below(100), 1+d.below(4), 1+d.below(100)
		is(t, pack(topic.Uncovered(x.l, x.papers, x.r, least)), all(x.plainUncovered(least), api.OK))
		is(t, pack(topic.Lack(x.l, x.papers, x.r, each)), all(x.plainLack(each), api.OK))
		want := x.plainOdd(percent)
		odd += len(want)
		is(t, pack(topic.Odd(x.l, x.papers, x.r, x.b, percent)), all(want, api.OK))
	}
	if odd < 50 {
		t.Error(odd)
	}
}

// many is how many papers have a topic.
func (x fair) many(key string) int {
	n := 0
	for _, p := range x.papers {
		if slices.Contains(p.Topics, key) {
			n++
		}
	}
	return n
}

func (x fair) plainUncovered(least int) []string {
	var l []string
	for _, key := range topicKeys(x.l) {
		knows := func(r api.Reader) bool {
			part, _ := plainPart(x.l, r.Skills, key)
			return part.Cmp(big.NewRat(int64(least), 100)) >= 0
		}
		if x.many(key) > 0 && !slices.ContainsFunc(x.r, knows) {
			l = append(l, key)
		}
	}
	return l
}

func (x fair) plainLack(each int) []api.Short {
	var l []api.Short
	for _, key := range topicKeys(x.l) {
		s := api.Short{Topic: key, Papers: x.many(key)}
		for _, r := range x.r {
			if slices.ContainsFunc(r.Skills, func(s api.Skill) bool { return s.Topic == key && s.Weight >= 50 }) {
				s.Readers++
			}
		}
		if s.Papers > 0 && each*s.Papers > s.Readers {
			l = append(l, s)
		}
	}
	return l
}

func (x fair) plainOdd(percent int) []api.OddBids {
	var l []api.OddBids
	for _, r := range x.r {
		greatest := new(big.Rat)
		for _, p := range x.papers {
			if f := plainAffinity(x.l, r.Skills, p.Topics); f.Cmp(greatest) > 0 {
				greatest = f
			}
		}
		limit := new(big.Rat).Mul(greatest, big.NewRat(int64(percent), 100))
		o := api.OddBids{Person: r.Key}
		for _, p := range x.papers {
			less := plainAffinity(x.l, r.Skills, p.Topics).Cmp(limit) < 0
			switch x.level(p, r) {
			case api.BidYes, api.BidEager:
				if less {
					o.High++
				}
			case api.BidNo:
				if !less {
					o.Low++
				}
			}
		}
		if o.High > 0 || float64(o.Low) > float64(len(x.papers))/2 {
			l = append(l, o)
		}
	}
	return l
}
