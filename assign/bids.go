package assign

import (
	"maps"
	"slices"

	"rebuttal/api"
	"rebuttal/index"
	"rebuttal/pairs"
	"rebuttal/rings"
	"rebuttal/syntax"
)

// Swaps are pairs of persons who lean to each other.
func Swaps(papers []api.Paper, bids []api.Pair) ([]api.Bond, api.Errno) {
	leans, e := newLeans(papers, bids)
	if e != api.OK {
		return nil, e
	}
	var bonds []api.Bond
	for _, a := range slices.Sorted(maps.Keys(leans)) {
		for _, b := range leans[a] {
			if _, back := slices.BinarySearch(leans[b], a); back && a < b {
				bonds = append(bonds, api.Bond{A: a, B: b})
			}
		}
	}
	return bonds, api.OK
}

// Rings are sets of persons who come to each other by leaning.
func Rings(papers []api.Paper, bids []api.Pair) ([][]string, api.Errno) {
	leans, e := newLeans(papers, bids)
	if e != api.OK {
		return nil, e
	}
	return rings.Of(leans), api.OK
}

// newLeans are the authors for whose papers each person bids, sorted, each once; they can be among them.
func newLeans(papers []api.Paper, bids []api.Pair) (map[string][]string, api.Errno) {
	if e := checkWritten(papers); e != api.OK {
		return nil, e
	}
	if len(bids) > api.MaxLeans {
		return nil, api.ErrLarge
	}
	if e := pairs.Check(bids); e != api.OK {
		return nil, e
	}
	number := index.Of(papers, idOf)
	leans := map[string][]string{}
	for _, bid := range bids {
		i, known := number[bid.Paper]
		if !known {
			return nil, api.ErrNone
		}
		leans[bid.Person] = append(leans[bid.Person], papers[i].Authors...)
	}
	for _, person := range slices.Collect(maps.Keys(leans)) {
		slices.Sort(leans[person])
		leans[person] = slices.Compact(leans[person])
	}
	return leans, api.OK
}

// checkWritten validates papers of which only the Ids and the authors count.
func checkWritten(l []api.Paper) api.Errno {
	return syntax.RisingBy(l, api.MaxPapers, idOf, func(p api.Paper) api.Errno { return syntax.Distinct(p.Authors, api.MaxAuthors) })
}

func idOf(p api.Paper) string { return p.Id }
