package program

import (
	"slices"

	"rebuttal/api"
	"rebuttal/syntax"
)

// nobody is the chair of a session that has none, and the session of a chair who has none.
const nobody = -1

// Chairs gives sessions chairs.
func Chairs(g api.Grid, p []api.Session, l []api.Chair) ([]api.Chaired, api.Errno) {
	x, e := newProgramme(g, p)
	if e != api.OK {
		return nil, e
	}
	if e := checkChairs(l); e != api.OK {
		return nil, e
	}
	s := newSeating(x.candidates(l), len(l))
	s.settle()
	var chaired []api.Chaired
	for i, session := range x.sessions() {
		if chair := s.chair[i]; chair != nobody {
			chaired = append(chaired, api.Chaired{Slot: session.Slot, Room: session.Room, Person: l[chair].Person})
		}
	}
	return chaired, api.OK
}

func checkChairs(l []api.Chair) api.Errno {
	person := func(c api.Chair) string { return c.Person }
	return syntax.RisingBy(l, api.MaxChairs, person, func(c api.Chair) api.Errno { return syntax.Rising(c.Topics, api.MaxWanted) })
}

// candidates are those who can chair each session, by their numbers.
func (x programme) candidates(l []api.Chair) [][]int {
	taken := x.taken()
	can := make([][]int, len(taken))
	for chair, c := range l {
		busy := x.having(taken, func(t api.Talk) bool { return speaks(t, c.Person) })
		for i, place := range taken {
			isBusy := slices.ContainsFunc(busy, func(other int) bool { return x.overlap(place, other) })
			if !isBusy && x.hasTalk(place, func(t api.Talk) bool { return shareTopic(t, c) }) {
				can[i] = append(can[i], chair)
			}
		}
	}
	return can
}

// having are the sessions with a talk of some kind.
func (x programme) having(places []int, is func(api.Talk) bool) []int {
	var l []int
	for _, place := range places {
		if x.hasTalk(place, is) {
			l = append(l, place)
		}
	}
	return l
}

// hasTalk reports whether a session has a talk of some kind.
func (x programme) hasTalk(place int, is func(api.Talk) bool) bool {
	return slices.ContainsFunc(x.layout[place], func(talk int) bool { return is(x.Talks[talk]) })
}

func shareTopic(t api.Talk, c api.Chair) bool {
	return slices.ContainsFunc(t.Topics, func(key string) bool {
		_, found := slices.BinarySearch(c.Topics, key)
		return found
	})
}

// seating is who chairs which sessions, all by numbers.
type seating struct {
	can     [][]int // the chairs that each session can have, rising
	chair   []int   // of each session
	session []int   // of each chair
}

// newSeating has a chair for as many sessions as possible.
func newSeating(can [][]int, chairs int) *seating {
	s := &seating{can, slices.Repeat([]int{nobody}, len(can)), slices.Repeat([]int{nobody}, chairs)}
	for s.grow(0) {
	}
	return s
}

// grow gives one more session a chair, if there is a way; those before first keep theirs.
func (s *seating) grow(first int) bool {
	seen := make([]bool, len(s.session))
	for i := first; i < len(s.chair); i++ {
		if s.chair[i] == nobody && s.seat(i, first, seen) {
			return true
		}
	}
	return false
}

// seat gives a session a chair who has none, or whose session gets another one. What was seen leads nowhere.
func (s *seating) seat(i, first int, seen []bool) bool {
	for _, chair := range s.can[i] {
		if seen[chair] {
			continue
		}
		seen[chair] = true
		other := s.session[chair]
		if other == nobody || other >= first && s.seat(other, first, seen) {
			s.give(i, chair)
			return true
		}
	}
	return false
}

func (s *seating) give(i, chair int) { s.chair[i], s.session[chair] = chair, i }

// settle gives each session, in order, the first chair with whom as many sessions as before have one.
func (s *seating) settle() {
	for i, chairs := range s.can {
		for _, chair := range chairs {
			if s.chair[i] == chair || s.take(i, chair) {
				break
			}
		}
	}
}

// take gives a session a chair, if as many sessions as before have one then; those before it keep theirs. Where both the session had a chair and the chair a session, one that is left has to get the chair that is left.
func (s *seating) take(i, chair int) bool {
	old, other := s.chair[i], s.session[chair]
	if other != nobody && other < i {
		return false
	}
	before := seating{s.can, slices.Clone(s.chair), slices.Clone(s.session)}
	if old != nobody {
		s.session[old] = nobody
	}
	if other != nobody {
		s.chair[other] = nobody
	}
	s.give(i, chair)
	if old != nobody && other != nobody && !s.grow(i+1) {
		*s = before
		return false
	}
	return true
}
