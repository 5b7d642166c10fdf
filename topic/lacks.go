package topic

import (
	"rebuttal/api"
	"rebuttal/exact"
)

// Uncovered are the topics of papers that no reader knows.
func Uncovered(l []api.Topic, papers []api.Paper, r []api.Reader, least int) ([]string, api.Errno) {
	m, e := newMarket(l, papers, r, nil)
	if e != api.OK {
		return nil, e
	}
	if !isPercent(least) {
		return nil, api.ErrArg
	}
	covered := make([]bool, len(l))
	for _, reader := range r {
		for i, k := range m.forest.knowledge(reader.Skills) {
			covered[i] = covered[i] || k.part >= least*partPercent
		}
	}
	wanted := m.wanted()
	var keys []string
	for i, t := range l {
		if wanted[t.Key] > 0 && !covered[i] {
			keys = append(keys, t.Key)
		}
	}
	return keys, api.OK
}

// Lack are the topics for which there are too few readers.
func Lack(l []api.Topic, papers []api.Paper, r []api.Reader, each int) ([]api.Short, api.Errno) {
	m, e := newMarket(l, papers, r, nil)
	if e != api.OK {
		return nil, e
	}
	if each < 1 || each > mostEach {
		return nil, api.ErrArg
	}
	wanted, experts := m.wanted(), m.experts()
	var short []api.Short
	for _, t := range l {
		s := api.Short{Topic: t.Key, Papers: wanted[t.Key], Readers: experts[t.Key]}
		if each*s.Papers > s.Readers {
			short = append(short, s)
		}
	}
	return short, api.OK
}

// Odd are the readers whose bids are odd.
func Odd(l []api.Topic, papers []api.Paper, r []api.Reader, b []api.Bid, percent int) ([]api.OddBids, api.Errno) {
	m, e := newMarket(l, papers, r, b)
	if e != api.OK {
		return nil, e
	}
	if !isPercent(percent) {
		return nil, api.ErrArg
	}
	var odd []api.OddBids
	for _, reader := range r {
		o := m.oddBids(reader, percent)
		if o.High > 0 || 2*o.Low > len(papers) {
			odd = append(odd, o)
		}
	}
	return odd, api.OK
}

const (
	mostEach   = 20 // readers for each paper
	goodWeight = 50 // the least weight of those who are readers of a topic
)

// wanted is how many papers have each topic.
func (m *market) wanted() map[string]int {
	many := map[string]int{}
	for _, p := range m.papers {
		for _, key := range p.Topics {
			many[key]++
		}
	}
	return many
}

// experts is how many readers know each topic well.
func (m *market) experts() map[string]int {
	many := map[string]int{}
	for _, r := range m.readers {
		for _, s := range r.Skills {
			if s.Weight >= goodWeight {
				many[s.Topic]++
			}
		}
	}
	return many
}

// oddBids counts what a reader wants and knows little of, and what they know and do not want.
func (m *market) oddBids(r api.Reader, percent int) api.OddBids {
	affinity := m.affinity(r)
	greatest := api.Fraction{Num: 0, Den: 1}
	for _, p := range m.papers {
		if f := affinity(p); exact.Compare(f, greatest) > 0 {
			greatest = f
		}
	}
	limit := exact.Lowest(percent*greatest.Num, 100*greatest.Den)
	o := api.OddBids{Person: r.Key}
	for _, p := range m.papers {
		little := exact.Compare(affinity(p), limit) < 0
		level := m.level(p, r)
		if little && isWish(level) {
			o.High++
		}
		if !little && level == api.BidNo {
			o.Low++
		}
	}
	return o
}

func isWish(level int) bool { return level == api.BidYes || level == api.BidEager }
