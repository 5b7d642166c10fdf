package review

import (
	"slices"

	"rebuttal/api"
	"rebuttal/index"
	"rebuttal/pairs"
	"rebuttal/papers"
	"rebuttal/syntax"
)

// CheckSetup validates a setup.
func CheckSetup(s api.Setup) api.Errno {
	_, e := newSetup(s)
	return e
}

// setup is a setup that is right, with the numbers of its questions and papers.
type setup struct {
	api.Setup
	sheet *sheet
	paper map[string]int
}

// newSetup has the errors of CheckSetup.
func newSetup(s api.Setup) (*setup, api.Errno) {
	sheet, e := newSheet(s.Sheet)
	if e != api.OK {
		return nil, e
	}
	if e := papers.Check(s.Papers, syntax.CheckKey); e != api.OK {
		return nil, e
	}
	x := &setup{Setup: s, sheet: sheet}
	x.paper = index.Of(s.Papers, func(p api.Paper) string { return p.Id })
	for _, l := range [][]api.Pair{s.Pairs, s.Barred} {
		if e := x.checkPairs(l); e != api.OK {
			return nil, e
		}
	}
	if slices.ContainsFunc(s.Pairs, x.excluded) {
		return nil, api.ErrConflict
	}
	if e := syntax.Rising(s.Chairs, api.MaxHeads); e != api.OK {
		return nil, e
	}
	if !isTime(s.Due) || !isTime(s.Reply) {
		return nil, api.ErrArg
	}
	return x, api.OK
}

// checkPairs validates pairs of known papers.
func (s *setup) checkPairs(l []api.Pair) api.Errno {
	if e := pairs.Check(l); e != api.OK {
		return e
	}
	for _, p := range l {
		if e := s.checkPaper(p.Paper); e != api.OK {
			return e
		}
	}
	return api.OK
}

func (s *setup) checkPaper(id string) api.Errno {
	if _, known := s.paper[id]; !known {
		return api.ErrNone
	}
	return api.OK
}

func (s *setup) checkPair(p api.Pair) api.Errno {
	if !pairs.Has(s.Pairs, p) {
		return api.ErrNone
	}
	return api.OK
}

// wrote reports whether a person is an author of a known paper.
func (s *setup) wrote(p api.Pair) bool {
	return slices.Contains(s.Papers[s.paper[p.Paper]].Authors, p.Person)
}

// excluded reports whether a person is barred for a known paper, or an author of it.
func (s *setup) excluded(p api.Pair) bool { return pairs.Has(s.Barred, p) || s.wrote(p) }

// isTime reports whether a number is a moment or End.
func isTime(n int) bool { return n >= 0 && n <= api.End }
