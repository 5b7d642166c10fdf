package topic

import (
	"cmp"
	"slices"

	"rebuttal/api"
	"rebuttal/exact"
	"rebuttal/index"
	"rebuttal/pairs"
	"rebuttal/submit"
	"rebuttal/syntax"
)

// CheckReaders validates readers.
func CheckReaders(l []api.Topic, r []api.Reader) api.Errno {
	f, e := newForest(l)
	if e != api.OK {
		return e
	}
	return f.checkReaders(r)
}

// CheckBids validates bids.
func CheckBids(b []api.Bid) api.Errno {
	if len(b) > api.MaxBids {
		return api.ErrLarge
	}
	var last api.Pair
	for _, bid := range b {
		if e := pairs.After(bid.Pair, last); e != api.OK {
			return e
		}
		if bid.Level == api.BidNone || !isLevel(bid.Level) {
			return api.ErrKind
		}
		last = bid.Pair
	}
	return api.OK
}

// Worth is how much a pair is worth.
func Worth(f api.Fraction, bid int) (int, api.Errno) {
	if e := exact.Check(0, f); e != api.OK {
		return 0, e
	}
	if f.Num > f.Den {
		return 0, api.ErrArg
	}
	if !isLevel(bid) {
		return 0, api.ErrKind
	}
	return worth(f, bid), api.OK
}

// Worths are the worths of all papers and readers.
func Worths(l []api.Topic, papers []api.Paper, r []api.Reader, b []api.Bid) ([][]int, api.Errno) {
	m, e := newMarket(l, papers, r, b)
	if e != api.OK {
		return nil, e
	}
	worths := make([][]int, len(papers))
	for i := range worths {
		worths[i] = make([]int, len(r))
	}
	for j, reader := range r {
		worth := m.worth(reader)
		for i, p := range papers {
			worths[i][j] = worth(p)
		}
	}
	return worths, api.OK
}

// Best are the readers who are worth the most for a paper.
func Best(l []api.Topic, papers []api.Paper, r []api.Reader, b []api.Bid, id string, many int) ([]string, api.Errno) {
	m, e := newMarket(l, papers, r, b)
	if e != api.OK {
		return nil, e
	}
	i := slices.IndexFunc(papers, func(p api.Paper) bool { return p.Id == id })
	if i < 0 {
		return nil, api.ErrNone
	}
	if many < 1 || many > api.MaxReaders {
		return nil, api.ErrArg
	}
	worths := map[string]int{}
	var best []string
	for _, reader := range r {
		if n := m.worth(reader)(papers[i]); n > 0 {
			worths[reader.Key] = n
			best = append(best, reader.Key)
		}
	}
	// Stable, because readers are sorted by Key.
	slices.SortStableFunc(best, func(a, b string) int { return cmp.Compare(worths[b], worths[a]) })
	return best[:min(many, len(best))], api.OK
}

// market is papers, and those who may read them.
type market struct {
	forest  *forest
	papers  []api.Paper
	readers []api.Reader
	levels  map[api.Pair]int // of bids
}

// newMarket has the errors of all that have papers, readers and bids.
func newMarket(l []api.Topic, papers []api.Paper, r []api.Reader, b []api.Bid) (*market, api.Errno) {
	f, e := newForest(l)
	if e != api.OK {
		return nil, e
	}
	if e := submit.CheckPapers(papers); e != api.OK {
		return nil, e
	}
	if e := f.checkWanted(papers); e != api.OK {
		return nil, e
	}
	if e := f.checkReaders(r); e != api.OK {
		return nil, e
	}
	if e := CheckBids(b); e != api.OK {
		return nil, e
	}
	if e := checkBidders(papers, r, b); e != api.OK {
		return nil, e
	}
	m := &market{forest: f, papers: papers, readers: r, levels: make(map[api.Pair]int, len(b))}
	for _, bid := range b {
		m.levels[bid.Pair] = bid.Level
	}
	return m, api.OK
}

func (f *forest) checkWanted(papers []api.Paper) api.Errno {
	for _, p := range papers {
		if len(p.Topics) > api.MaxWanted {
			return api.ErrLarge
		}
		if !f.hasAll(p.Topics) {
			return api.ErrNone
		}
	}
	return api.OK
}

func (f *forest) checkReaders(l []api.Reader) api.Errno {
	return syntax.RisingBy(l, api.MaxReaders, readerKey, func(r api.Reader) api.Errno { return f.checkSkills(r.Skills) })
}

func readerKey(r api.Reader) string { return r.Key }

// checkBidders finds bids of unknown papers and persons.
func checkBidders(papers []api.Paper, r []api.Reader, b []api.Bid) api.Errno {
	paper := paperNumbers(papers)
	person := index.Of(r, readerKey)
	for _, bid := range b {
		_, knownPaper := paper[bid.Paper]
		_, knownPerson := person[bid.Person]
		if !knownPaper || !knownPerson {
			return api.ErrNone
		}
	}
	return api.OK
}

func paperNumbers(l []api.Paper) map[string]int {
	return index.Of(l, func(p api.Paper) string { return p.Id })
}

// worthOf are the worths of pairs with the Affinity 1, by the level of the bid.
var worthOf = [...]int{
	api.BidNone:  500_000,
	api.BidNo:    0,
	api.BidMaybe: 600_000,
	api.BidYes:   800_000,
	api.BidEager: 1_000_000,
}

func isLevel(level int) bool { return level >= 0 && level < len(worthOf) }

func worth(f api.Fraction, level int) int { return worthOf[level] * f.Num / f.Den }

// affinity is a function that says how much of a paper a reader knows.
func (m *market) affinity(r api.Reader) func(api.Paper) api.Fraction {
	all := m.forest.knowledge(r.Skills)
	return func(p api.Paper) api.Fraction { return m.forest.affinity(all, p.Topics) }
}

// worth is a function that says how much it is worth that a reader has a paper.
func (m *market) worth(r api.Reader) func(api.Paper) int {
	affinity := m.affinity(r)
	return func(p api.Paper) int { return worth(affinity(p), m.level(p, r)) }
}

func (m *market) level(p api.Paper, r api.Reader) int {
	return m.levels[api.Pair{Paper: p.Id, Person: r.Key}]
}
