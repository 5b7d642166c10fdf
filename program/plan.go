package program

import (
	"slices"

	"rebuttal/api"
	"rebuttal/index"
)

// Plan is a programme that is edited.
type Plan struct {
	now    programme
	done   []edit // the last one is taken back next
	undone []edit // the last one is made again next
}

// edit leads from one programme to the next one, and back.
type edit struct{ forth, back func(programme) programme }

// New is an empty programme.
func New(g api.Grid) (*Plan, api.Errno) {
	if e := CheckGrid(g); e != api.OK {
		return nil, e
	}
	now, e := emptyProgramme(kept(g))
	if e != api.OK {
		return nil, e
	}
	return &Plan{now: now}, api.OK
}

// Place puts a talk into a session.
func (x *Plan) Place(paper, room, slot string, at int) api.Errno {
	talk, known := x.now.talk[paper]
	if !known {
		return api.ErrNone
	}
	place, e := x.now.placeOf(slot, room)
	if e != api.OK {
		return e
	}
	if others := x.now.without(talk).layout[place]; at < 0 || at > len(others) {
		return api.ErrArg
	}
	return x.move(talk, spot{place, at})
}

// Take takes a talk out.
func (x *Plan) Take(paper string) api.Errno {
	talk, known := x.now.talk[paper]
	if !known {
		return api.ErrNone
	}
	if x.now.find(talk).place == none {
		return api.ErrState
	}
	return x.move(talk, x.now.behind(none))
}

// Swap exchanges two talks.
func (x *Plan) Swap(a, b string) api.Errno {
	i, j, e := index.Two(x.now.talk, a, b)
	if e != api.OK {
		return e
	}
	if i == j {
		return api.ErrTwice
	}
	if x.now.find(i).place == none || x.now.find(j).place == none {
		return api.ErrState
	}
	swap := func(p programme) programme { return p.swapped(i, j) }
	return x.apply(edit{forth: swap, back: swap})
}

// Undo takes the last edit back.
func (x *Plan) Undo() api.Errno {
	last, there := pop(&x.done)
	if !there {
		return api.ErrNone
	}
	x.now = last.back(x.now)
	x.undone = append(x.undone, last)
	return api.OK
}

// Redo makes the last edit again that was taken back.
func (x *Plan) Redo() api.Errno {
	last, there := pop(&x.undone)
	if !there {
		return api.ErrNone
	}
	x.now = last.forth(x.now)
	x.done = append(x.done, last)
	return api.OK
}

// Sessions is the programme.
func (x *Plan) Sessions() []api.Session { return x.now.sessions() }

// move makes the edit that puts a talk to another spot.
func (x *Plan) move(talk int, to spot) api.Errno {
	from := x.now.find(talk)
	return x.apply(edit{
		forth: func(p programme) programme { return p.moved(talk, to) },
		back:  func(p programme) programme { return p.moved(talk, from) },
	})
}

// apply makes an edit, if what it leads to is right.
func (x *Plan) apply(e edit) api.Errno {
	next := e.forth(x.now)
	if e := next.check(); e != api.OK {
		return e
	}
	x.now, x.done, x.undone = next, append(x.done, e), nil
	return api.OK
}

// pop takes the last edit off a list.
func pop(l *[]edit) (edit, bool) {
	n := len(*l) - 1
	if n < 0 {
		return edit{}, false
	}
	last := (*l)[n]
	*l = (*l)[:n]
	return last, true
}

// kept is what a plan needs of a grid, in new memory.
func kept(g api.Grid) api.Grid {
	g.Rooms, g.Slots, g.Talks, g.Bans = slices.Clone(g.Rooms), slices.Clone(g.Slots), slices.Clone(g.Talks), slices.Clone(g.Bans)
	g.Wishes = nil
	for i := range g.Talks {
		t := &g.Talks[i]
		t.Speakers, t.Topics = slices.Clone(t.Speakers), nil
	}
	return g
}
