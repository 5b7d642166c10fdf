package discuss

import (
	"cmp"
	"slices"
	"sort"

	"rebuttal/api"
	"rebuttal/pairs"
	"rebuttal/syntax"
)

// CheckBoard validates a board.
func CheckBoard(b api.Board) api.Errno {
	_, e := newBoard(b)
	return e
}

// Open says whether the thread of a paper is open.
func Open(b api.Board, paper string, at int) (bool, api.Errno) {
	x, e := newBoard(b)
	if e != api.OK {
		return false, e
	}
	if e := cmp.Or(syntax.CheckKey(paper), syntax.CheckMoment(at)); e != api.OK {
		return false, e
	}
	return x.open(paper, at), api.OK
}

// May says whether somebody may talk about a paper.
func May(b api.Board, paper, person string, at int) (bool, api.Errno) {
	x, e := newBoard(b)
	if e != api.OK {
		return false, e
	}
	if e := cmp.Or(syntax.CheckKey(paper), syntax.CheckKey(person), syntax.CheckMoment(at)); e != api.OK {
		return false, e
	}
	return x.may(api.Pair{Paper: paper, Person: person}, at), api.OK
}

// board is a board that is right, with the turns of each paper.
type board struct {
	api.Board
	turns map[string][]api.Turn
}

// newBoard has the errors of CheckBoard.
func newBoard(b api.Board) (*board, api.Errno) {
	if e := cmp.Or(pairs.Check(b.Pairs), pairs.Check(b.Barred)); e != api.OK {
		return nil, e
	}
	if slices.ContainsFunc(b.Pairs, func(p api.Pair) bool { return pairs.Has(b.Barred, p) }) {
		return nil, api.ErrConflict
	}
	if e := syntax.Rising(b.Heads, api.MaxHeads); e != api.OK {
		return nil, e
	}
	turns, e := turnsOf(b.Turns)
	if e != api.OK {
		return nil, e
	}
	return &board{Board: b, turns: turns}, api.OK
}

// turnsOf are the turns of each paper. Of these, the first one and every second one after it open the thread.
func turnsOf(l []api.Turn) (map[string][]api.Turn, api.Errno) {
	if len(l) > api.MaxTurns {
		return nil, api.ErrLarge
	}
	turns := map[string][]api.Turn{}
	last := 0
	for _, t := range l {
		if !syntax.Moment(t.At) {
			return nil, api.ErrArg
		}
		if t.At < last {
			return nil, api.ErrOrder
		}
		if !syntax.Key(t.Paper) {
			return nil, api.ErrName
		}
		if t.Open == isOpen(turns[t.Paper]) {
			return nil, api.ErrState
		}
		turns[t.Paper] = append(turns[t.Paper], t)
		last = t.At
	}
	return turns, api.OK
}

// isOpen reports whether turns leave a thread open.
func isOpen(turns []api.Turn) bool { return len(turns) > 0 && turns[len(turns)-1].Open }

// open reports whether the thread of a paper is open at a moment.
func (b *board) open(paper string, at int) bool {
	turns := b.turns[paper]
	later := sort.Search(len(turns), func(i int) bool { return turns[i].At > at })
	return isOpen(turns[:later])
}

// may reports whether a person may talk about a paper at a moment.
func (b *board) may(p api.Pair, at int) bool {
	asked := slices.Contains(b.Heads, p.Person) || pairs.Has(b.Pairs, p)
	return asked && !pairs.Has(b.Barred, p) && b.open(p.Paper, at)
}
