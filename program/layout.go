package program

import (
	"slices"

	"rebuttal/api"
)

// none is the place of the talks that are missing.
const none = 0

// layout is the talks at each place (P8.4), by their numbers: in their order, if the place is not none. When it is filled its lists are not changed any more, but replaced.
type layout [][]int

// spot is where a talk is: its number among those of a place.
type spot struct{ place, at int }

// taken are the places of sessions, in order.
func (l layout) taken() []int {
	var places []int
	for place, talks := range l {
		if place != none && len(talks) > 0 {
			places = append(places, place)
		}
	}
	return places
}

// behind is the spot behind all talks of a place.
func (l layout) behind(place int) spot { return spot{place, len(l[place])} }

// find is the spot of a talk.
func (l layout) find(talk int) spot {
	for place, talks := range l {
		if at := slices.Index(talks, talk); at >= 0 {
			return spot{place, at}
		}
	}
	return spot{}
}

// with is the programme with a talk that it did not have.
func (x programme) with(talk int, at spot) programme {
	l := slices.Clone(x.layout)
	l[at.place] = slices.Insert(slices.Clone(l[at.place]), at.at, talk)
	return programme{x.grid, l}
}

// without is the programme as if there were no such talk.
func (x programme) without(talk int) programme {
	at := x.find(talk)
	l := slices.Clone(x.layout)
	l[at.place] = slices.Delete(slices.Clone(l[at.place]), at.at, at.at+1)
	return programme{x.grid, l}
}

// moved is the programme with a talk at another spot.
func (x programme) moved(talk int, to spot) programme { return x.without(talk).with(talk, to) }

// swapped is the programme with each one of two talks at the spot of the other one.
func (x programme) swapped(a, b int) programme {
	p, q := x.find(a), x.find(b)
	l := slices.Clone(x.layout)
	l[p.place] = slices.Clone(l[p.place])
	l[p.place][p.at] = b
	l[q.place] = slices.Clone(l[q.place])
	l[q.place][q.at] = a
	return programme{x.grid, l}
}

// placeOf is the place of a slot and a room.
func (g *grid) placeOf(slot, room string) (int, api.Errno) {
	s, knownSlot := g.slot[slot]
	r, knownRoom := g.room[room]
	if !knownSlot || !knownRoom {
		return none, api.ErrNone
	}
	return 1 + s*len(g.Rooms) + r, api.OK
}

func (g *grid) slotNumber(place int) int { return (place - 1) / len(g.Rooms) }

func (g *grid) roomNumber(place int) int { return (place - 1) % len(g.Rooms) }

func (g *grid) slotAt(place int) api.Slot { return g.Slots[g.slotNumber(place)] }

func (g *grid) roomAt(place int) api.Room { return g.Rooms[g.roomNumber(place)] }

// overlap reports whether the slots of two places overlap.
func (g *grid) overlap(p, q int) bool { return Overlaps(g.slotAt(p), g.slotAt(q)) }
