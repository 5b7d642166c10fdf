package program

import (
	"math"

	"rebuttal/api"
)

// maxRounds is how many moves Improve makes at most.
const maxRounds = 100

// Best is the best programme of a small grid.
func Best(g api.Grid) ([]api.Session, int, api.Errno) {
	x, e := emptyProgramme(g)
	if e != api.OK {
		return nil, 0, e
	}
	if !x.fits(api.MaxSmall) {
		return nil, 0, api.ErrLarge
	}
	best, cost := x.best()
	return best.sessions(), cost, api.OK
}

// Improve makes a programme better by single moves.
func Improve(g api.Grid, p []api.Session, rounds int) ([]api.Session, int, api.Errno) {
	x, e := newProgramme(g, p)
	if e != api.OK {
		return nil, 0, e
	}
	if rounds < 0 || rounds > maxRounds {
		return nil, 0, api.ErrArg
	}
	if !x.fits(api.MaxMoves) {
		return nil, 0, api.ErrLarge
	}
	for range rounds {
		better, found := x.improved()
		if !found {
			break
		}
		x = better
	}
	return x.sessions(), x.cost(), api.OK
}

// fits reports whether there are at most so many talks, and so many places other than none.
func (x programme) fits(most int) bool { return len(x.Talks) <= most && len(x.layout)-1 <= most }

// best is the best programme, and its cost. It puts one talk after the other at each place, and gives up where a programme is wrong, or not cheaper than one that it has: more talks put neither right. It comes to lesser lists of places before greater ones, so of equal ones the least stays.
func (x programme) best() (programme, int) {
	best, least := x, math.MaxInt
	var place func(now programme, talk int)
	place = func(now programme, talk int) {
		if now.check() != api.OK {
			return
		}
		cost := now.cost()
		if cost >= least {
			return
		}
		if talk == len(x.Talks) {
			best, least = now, cost
			return
		}
		for p := range now.layout {
			place(now.with(talk, now.behind(p)), talk+1)
		}
	}
	place(programme{x.grid, make(layout, len(x.layout))}, 0)
	return best, least
}

// improved is the programme after the best move, if this makes it better.
func (x programme) improved() (programme, bool) {
	best, least, found := x, x.cost(), false
	x.moves(func(next programme) {
		if next.check() != api.OK {
			return
		}
		if cost := next.cost(); cost < least {
			best, least, found = next, cost, true
		}
	})
	return best, found
}

// moves calls visit for the programme after each move.
func (x programme) moves(visit func(programme)) {
	for talk := range x.Talks {
		own := x.find(talk).place
		for place := range x.layout {
			if place != own {
				visit(x.moved(talk, x.behind(place)))
			}
		}
	}
	for a := range x.Talks {
		for b := a + 1; b < len(x.Talks); b++ {
			p, q := x.find(a).place, x.find(b).place
			if p != q && p != none && q != none {
				visit(x.swapped(a, b))
			}
		}
	}
}
