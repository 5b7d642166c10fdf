package program

import (
	"cmp"
	"slices"
	"strings"

	"rebuttal/api"
)

// What a programme costs for each talk that is missing, each person of a clash, and each pair of talks of a session that have no topic in common. Each person without a seat costs 1.
const (
	costMissing = 1_000
	costClash   = 100
	costMixed   = 10
)

// Clashes are papers at one time that somebody wants to hear.
func Clashes(g api.Grid, p []api.Session) ([]api.Clash, api.Errno) {
	x, e := newProgramme(g, p)
	if e != api.OK {
		return nil, e
	}
	var l []api.Clash
	x.meet(func(a, b int) {
		if many := x.both(a, b); many > 0 {
			papers := x.papers([]int{min(a, b), max(a, b)})
			l = append(l, api.Clash{A: papers[0], B: papers[1], Many: many})
		}
	})
	slices.SortFunc(l, compareClashes)
	return l, api.OK
}

// Mixed is how many pairs of papers of one session have no topic in common.
func Mixed(g api.Grid, p []api.Session) (int, api.Errno) {
	x, e := newProgramme(g, p)
	if e != api.OK {
		return 0, e
	}
	return x.mixed(), api.OK
}

// Crowd is how many want to be in each session.
func Crowd(g api.Grid, p []api.Session) ([]api.Crowd, api.Errno) {
	x, e := newProgramme(g, p)
	if e != api.OK {
		return nil, e
	}
	var l []api.Crowd
	for _, place := range x.taken() {
		s := x.session(place)
		l = append(l, api.Crowd{Slot: s.Slot, Room: s.Room, People: x.crowd(place), Over: x.over(place)})
	}
	return l, api.OK
}

// Cost is what is bad about a programme.
func Cost(g api.Grid, p []api.Session) (int, api.Errno) {
	x, e := newProgramme(g, p)
	if e != api.OK {
		return 0, e
	}
	return x.cost(), api.OK
}

func (x programme) cost() int {
	clashes, over := 0, 0
	x.meet(func(a, b int) { clashes += x.both(a, b) })
	for _, place := range x.taken() {
		over += x.over(place)
	}
	return costMissing*len(x.layout[none]) + costClash*clashes + costMixed*x.mixed() + over
}

// meet calls visit for each two talks of different sessions at one time.
func (x programme) meet(visit func(a, b int)) {
	taken := x.taken()
	for i, p := range taken {
		for _, q := range taken[:i] {
			if !x.overlap(p, q) {
				continue
			}
			for _, a := range x.layout[p] {
				for _, b := range x.layout[q] {
					visit(a, b)
				}
			}
		}
	}
}

func (x programme) mixed() int {
	mixed := 0
	for _, place := range x.taken() {
		talks := x.layout[place]
		for i, a := range talks {
			for _, b := range talks[:i] {
				if !x.sameTopic[a][b] {
					mixed++
				}
			}
		}
	}
	return mixed
}

// both is how many persons wish both of two talks.
func (g *grid) both(a, b int) int { return g.wishers[a].and(g.wishers[b]).many() }

// crowd is how many persons wish a talk of a session.
func (x programme) crowd(place int) int {
	var all persons
	for _, talk := range x.layout[place] {
		all = all.or(x.wishers[talk])
	}
	return all.many()
}

// over is for how many persons a session has no seat.
func (x programme) over(place int) int { return max(0, x.crowd(place)-x.roomAt(place).Seats) }

func compareClashes(a, b api.Clash) int {
	return cmp.Or(cmp.Compare(b.Many, a.Many), strings.Compare(a.A, b.A), strings.Compare(a.B, b.B))
}
