package program

import (
	"slices"

	"rebuttal/api"
)

// maxSessions is how many sessions a programme has at most.
const maxSessions = api.MaxRooms * api.MaxSlots

// Check validates a programme.
func Check(g api.Grid, p []api.Session) api.Errno {
	_, e := newProgramme(g, p)
	return e
}

// Missing are the talks that are in no session.
func Missing(g api.Grid, p []api.Session) ([]string, api.Errno) {
	x, e := newProgramme(g, p)
	if e != api.OK {
		return nil, e
	}
	return x.papers(x.layout[none]), api.OK
}

// programme is a grid, and where its talks are.
type programme struct {
	*grid
	layout
}

// emptyProgramme has the errors of CheckGrid.
func emptyProgramme(g api.Grid) (programme, api.Errno) {
	x, e := newGrid(g)
	if e != api.OK {
		return programme{}, e
	}
	l := make(layout, 1+len(g.Slots)*len(g.Rooms))
	for talk := range g.Talks {
		l[none] = append(l[none], talk)
	}
	return programme{x, l}, api.OK
}

// newProgramme has the errors of Check.
func newProgramme(g api.Grid, p []api.Session) (programme, api.Errno) {
	x, e := emptyProgramme(g)
	if e != api.OK {
		return programme{}, e
	}
	if len(p) > maxSessions {
		return programme{}, api.ErrLarge
	}
	last := none
	for _, s := range p {
		place, e := x.placeOf(s.Slot, s.Room)
		if e != api.OK {
			return programme{}, e
		}
		if place <= last {
			return programme{}, api.ErrOrder
		}
		if e := x.fill(place, s.Papers); e != api.OK {
			return programme{}, e
		}
		last = place
	}
	if e := x.checkApart(); e != api.OK {
		return programme{}, e
	}
	return x, api.OK
}

// fill puts missing talks into a session that is empty.
func (x programme) fill(place int, papers []string) api.Errno {
	if len(papers) == 0 {
		return api.ErrForm
	}
	for _, paper := range papers {
		talk, known := x.talk[paper]
		if !known {
			return api.ErrNone
		}
		at := slices.Index(x.layout[none], talk)
		if at < 0 {
			return api.ErrTwice
		}
		x.layout[none] = slices.Delete(x.layout[none], at, at+1)
		x.layout[place] = append(x.layout[place], talk)
	}
	return x.checkTime(place)
}

// check is what is wrong with a programme whose sessions and talks are those of the grid.
func (x programme) check() api.Errno {
	for _, place := range x.taken() {
		if e := x.checkTime(place); e != api.OK {
			return e
		}
	}
	return x.checkApart()
}

// checkTime is what is wrong with how long a session is.
func (x programme) checkTime(place int) api.Errno {
	long := 0
	for _, talk := range x.layout[place] {
		long += x.Talks[talk].Long
	}
	if long > x.slotAt(place).Long {
		return api.ErrFull
	}
	return api.OK
}

// checkApart is what is wrong with sessions at one time, or at times at which somebody cannot speak.
func (x programme) checkApart() api.Errno {
	taken := x.taken()
	for i, p := range taken {
		if slices.ContainsFunc(taken[:i], func(q int) bool { return x.exclude(p, q) }) {
			return api.ErrConflict
		}
		slot := x.slotNumber(p)
		if slices.ContainsFunc(x.layout[p], func(talk int) bool { return x.banned[talk][slot] }) {
			return api.ErrState
		}
	}
	return api.OK
}

// exclude reports whether two sessions are at one time, and in one room or with one speaker.
func (x programme) exclude(p, q int) bool {
	return x.overlap(p, q) && (x.roomNumber(p) == x.roomNumber(q) || x.shareSpeaker(p, q))
}

// shareSpeaker reports whether a talk of a session has a speaker in common with one of another session.
func (x programme) shareSpeaker(p, q int) bool {
	return slices.ContainsFunc(x.layout[p], func(a int) bool {
		return slices.ContainsFunc(x.layout[q], func(b int) bool { return x.sameSpeaker[a][b] })
	})
}

// sessions is the programme as the document has it.
func (x programme) sessions() []api.Session {
	var l []api.Session
	for _, place := range x.taken() {
		l = append(l, x.session(place))
	}
	return l
}

func (x programme) session(place int) api.Session {
	return api.Session{Slot: x.slotAt(place).Key, Room: x.roomAt(place).Key, Papers: x.papers(x.layout[place])}
}

// papers are those of some talks.
func (g *grid) papers(talks []int) []string {
	var l []string
	for _, talk := range talks {
		l = append(l, g.Talks[talk].Paper)
	}
	return l
}
