package program

import (
	"cmp"
	"slices"
	"strings"

	"rebuttal/api"
	"rebuttal/syntax"
)

// Times is when talks are.
func Times(g api.Grid, p []api.Session) ([]api.Timed, api.Errno) {
	x, e := newProgramme(g, p)
	if e != api.OK {
		return nil, e
	}
	return x.times(func(api.Talk) bool { return true }), api.OK
}

// Busy is when a person speaks.
func Busy(g api.Grid, p []api.Session, person string) ([]api.Timed, api.Errno) {
	x, e := newProgramme(g, p)
	if e != api.OK {
		return nil, e
	}
	if e := syntax.CheckKey(person); e != api.OK {
		return nil, e
	}
	return x.times(func(t api.Talk) bool { return speaks(t, person) }), api.OK
}

// Beside are the papers at the time of a paper, in other sessions.
func Beside(g api.Grid, p []api.Session, paper string) ([]string, api.Errno) {
	x, e := newProgramme(g, p)
	if e != api.OK {
		return nil, e
	}
	talk, known := x.talk[paper]
	if !known {
		return nil, api.ErrNone
	}
	own := x.find(talk).place
	if own == none {
		return nil, api.ErrNone
	}
	var beside []string
	for _, place := range x.taken() {
		if place != own && x.overlap(place, own) {
			beside = append(beside, x.papers(x.layout[place])...)
		}
	}
	slices.Sort(beside)
	return beside, api.OK
}

// times is when some talks are.
func (x programme) times(wanted func(api.Talk) bool) []api.Timed {
	var l []api.Timed
	for _, place := range x.taken() {
		slot := x.slotAt(place)
		from := slot.From
		for _, i := range x.layout[place] {
			talk := x.Talks[i]
			to := from + talk.Long
			if wanted(talk) {
				l = append(l, api.Timed{Paper: talk.Paper, Slot: slot.Key, Room: x.roomAt(place).Key, From: from, To: to})
			}
			from = to
		}
	}
	slices.SortFunc(l, compareTimes)
	return l
}

func speaks(t api.Talk, person string) bool {
	_, found := slices.BinarySearch(t.Speakers, person)
	return found
}

// compareTimes needs no Paper: at one moment a room has one talk.
func compareTimes(a, b api.Timed) int {
	return cmp.Or(cmp.Compare(a.From, b.From), strings.Compare(a.Room, b.Room))
}
