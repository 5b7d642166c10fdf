// Package program gives talks their sessions.
package program

import (
	"cmp"
	"strings"

	"rebuttal/api"
	"rebuttal/index"
	"rebuttal/syntax"
)

// Limits of grids that no other chapter has.
const (
	maxSeats = 10_000
	maxBans  = 500
)

// CheckGrid validates a grid.
func CheckGrid(g api.Grid) api.Errno {
	_, e := newGrid(g)
	return e
}

// Overlaps says whether two slots overlap.
func Overlaps(a, b api.Slot) bool {
	return isTime(a) && isTime(b) && a.From < b.From+b.Long && b.From < a.From+a.Long
}

// grid is a grid that is right, with the numbers of its rooms, slots and talks, and with what is true of its talks.
type grid struct {
	api.Grid
	room, slot, talk map[string]int
	sameSpeaker      [][]bool  // of two talks
	sameTopic        [][]bool  // of two talks
	banned           [][]bool  // of a talk and a slot
	wishers          []persons // of each talk
}

// newGrid has the errors of CheckGrid.
func newGrid(g api.Grid) (*grid, api.Errno) {
	if e := cmp.Or(checkRooms(g.Rooms), checkSlots(g.Slots), checkTalks(g.Talks)); e != api.OK {
		return nil, e
	}
	x := &grid{Grid: g, room: index.Of(g.Rooms, roomKey), slot: index.Of(g.Slots, slotKey), talk: index.Of(g.Talks, talkKey)}
	if e := cmp.Or(x.checkWishes(), x.checkBans()); e != api.OK {
		return nil, e
	}
	speaks := having(g.Talks, func(t api.Talk) []string { return t.Speakers })
	about := having(g.Talks, func(t api.Talk) []string { return t.Topics })
	x.sameSpeaker, x.sameTopic = together(speaks, len(g.Talks)), together(about, len(g.Talks))
	x.setBanned(speaks)
	x.setWishers()
	return x, api.OK
}

func checkRooms(l []api.Room) api.Errno {
	return syntax.RisingBy(l, api.MaxRooms, roomKey, func(r api.Room) api.Errno {
		if r.Seats < 1 || r.Seats > maxSeats {
			return api.ErrArg
		}
		return api.OK
	})
}

func checkSlots(l []api.Slot) api.Errno {
	return syntax.RisingBy(l, api.MaxSlots, slotKey, func(s api.Slot) api.Errno {
		return cmp.Or(syntax.CheckMoment(s.From), checkLong(s.Long))
	})
}

func checkTalks(l []api.Talk) api.Errno {
	return syntax.RisingBy(l, api.MaxTalks, talkKey, func(t api.Talk) api.Errno {
		if len(t.Speakers) == 0 {
			return api.ErrNone
		}
		return cmp.Or(syntax.Rising(t.Speakers, api.MaxAuthors), syntax.Rising(t.Topics, api.MaxWanted), checkLong(t.Long))
	})
}

// checkLong is what is wrong with how many minutes something takes.
func checkLong(n int) api.Errno {
	if n < 1 || n > api.DayLong {
		return api.ErrArg
	}
	return api.OK
}

func (g *grid) checkWishes() api.Errno {
	person := func(w api.Wish) string { return w.Person }
	return syntax.RisingBy(g.Wishes, api.MaxWishes, person, func(w api.Wish) api.Errno { return index.Rising(g.talk, w.Papers) })
}

func (g *grid) checkBans() api.Errno {
	if len(g.Bans) > maxBans {
		return api.ErrLarge
	}
	var last api.Ban
	for _, b := range g.Bans {
		if !syntax.Key(b.Person) {
			return api.ErrName
		}
		if _, known := g.slot[b.Slot]; !known {
			return api.ErrNone
		}
		if compareBans(b, last) <= 0 {
			return api.ErrOrder
		}
		last = b
	}
	return api.OK
}

// setBanned marks the talks that have a speaker who is banned from a slot.
func (g *grid) setBanned(speaks map[string][]int) {
	g.banned = table(len(g.Talks), len(g.Slots))
	for _, b := range g.Bans {
		for _, talk := range speaks[b.Person] {
			g.banned[talk][g.slot[b.Slot]] = true
		}
	}
}

func (g *grid) setWishers() {
	g.wishers = make([]persons, len(g.Talks))
	for person, w := range g.Wishes {
		for _, paper := range w.Papers {
			g.wishers[g.talk[paper]].add(person)
		}
	}
}

// having are the talks that have each key.
func having(l []api.Talk, keys func(api.Talk) []string) map[string][]int {
	talks := map[string][]int{}
	for i, t := range l {
		for _, key := range keys(t) {
			talks[key] = append(talks[key], i)
		}
	}
	return talks
}

// together says of each two of so many talks whether they have a key in common.
func together(having map[string][]int, many int) [][]bool {
	same := table(many, many)
	for _, talks := range having {
		for _, a := range talks {
			for _, b := range talks {
				same[a][b] = true
			}
		}
	}
	return same
}

func table(rows, columns int) [][]bool {
	t := make([][]bool, rows)
	for i := range t {
		t[i] = make([]bool, columns)
	}
	return t
}

// isTime reports whether Overlaps takes a slot.
func isTime(s api.Slot) bool {
	return s.From >= 0 && s.From <= api.End && s.Long >= 0 && s.Long <= api.DayLong
}

func roomKey(r api.Room) string { return r.Key }

func slotKey(s api.Slot) string { return s.Key }

func talkKey(t api.Talk) string { return t.Paper }

func compareBans(a, b api.Ban) int {
	return cmp.Or(strings.Compare(a.Person, b.Person), strings.Compare(a.Slot, b.Slot))
}
