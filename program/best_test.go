package program_test

import (
	"fmt"
	"math"
	"slices"
	"testing"

	"rebuttal/api"
	"rebuttal/program"
)

// The example of the document. (One of the talks fits into the slot, not both.)
func TestBestExample(t *testing.T) {
	g := api.Grid{Rooms: rooms("a 9", "b 9"), Slots: slots("i 0 30"), Talks: talks("p 20 ann -", "q 20 ann -")}
	is(t, pack3(program.Best(g)), all(sessions("i a q"), 1_000, api.OK))
}

// P8.4: the best programme, and which one of several.
func TestBest(t *testing.T) {
	two := slots("i 0 10", "j 10 10")
	for _, c := range []struct {
		g    api.Grid
		want []api.Session
		cost int
	}{
		{api.Grid{}, nil, 0},
		{api.Grid{Rooms: rooms("a 1"), Slots: two}, nil, 0},
		{api.Grid{Rooms: rooms("a 1"), Talks: talks("p 1 z -", "q 1 z -")}, nil, 2_000},
		{api.Grid{Slots: two, Talks: talks("p 1 z -")}, nil, 1_000},
		{api.Grid{Rooms: rooms("a 1", "b 1"), Slots: two, Talks: talks("p 1 z -")}, sessions("i a p"), 0},
		// Two talks without a topic in common, and with one.
		{api.Grid{Rooms: rooms("a 1", "b 1"), Slots: two, Talks: talks("p 1 y -", "q 1 z -")}, sessions("i a p", "i b q"), 0},
		{api.Grid{Rooms: rooms("a 1", "b 1"), Slots: two, Talks: talks("p 1 y art", "q 1 z art")}, sessions("i a p q"), 0},
		{api.Grid{Rooms: rooms("a 1", "b 1"), Slots: two, Talks: talks("p 1 z -", "q 1 z -")}, sessions("i a p", "j a q"), 0},
		// Somebody wishes both.
		{api.Grid{Rooms: rooms("a 1", "b 1"), Slots: two, Talks: talks("p 1 y -", "q 1 z -"), Wishes: wishes("x p q")}, sessions("i a p", "j a q"), 0},
		{api.Grid{Rooms: rooms("a 1", "b 1"), Slots: two[:1], Talks: talks("p 1 y -", "q 1 z -"), Wishes: wishes("x p q")}, sessions("i a p q"), 10},
		{api.Grid{Rooms: rooms("a 1", "b 1"), Slots: two[:1], Talks: talks("p 6 y -", "q 6 z -"), Wishes: wishes("x p q")}, sessions("i a p", "i b q"), 100},
		// Seats, bans, and what fits into a slot.
		{api.Grid{Rooms: rooms("a 1", "b 2"), Slots: two, Talks: talks("p 1 z -"), Wishes: wishes("w p", "x p", "y p")}, sessions("i b p"), 1},
		{api.Grid{Rooms: rooms("a 1", "b 2"), Slots: two, Talks: talks("p 1 z -"), Bans: bans("z i")}, sessions("j a p"), 0},
		{api.Grid{Rooms: rooms("a 1"), Slots: two, Talks: talks("p 9 x a", "q 1 y a", "r 10 z -")}, sessions("i a p q", "j a r"), 0},
		{api.Grid{Rooms: rooms("a 1"), Slots: two, Talks: talks("p 9 x a", "q 2 y a", "r 10 z -")}, sessions("i a q", "j a r"), 1_000},
		{api.Grid{Rooms: rooms("a 1"), Slots: two, Talks: talks("p 11 z -")}, nil, 1_000},
		// Slots that overlap.
		{api.Grid{Rooms: rooms("a 1"), Slots: slots("i 0 10", "j 9 10"), Talks: talks("p 9 y -", "q 9 z -")}, sessions("i a q"), 1_000},
	} {
		is(t, all(c.g, pack3(program.Best(c.g))), all(c.g, all(c.want, c.cost, api.OK)))
	}
}

// P8.4: what a small grid is.
func TestBestLarge(t *testing.T) {
	g := greatest()
	g.Slots, g.Bans, g.Wishes = g.Slots[:2], nil, nil
	for _, c := range []struct {
		talks, slots, rooms int
		want                api.Errno
	}{{6, 2, 3, api.OK}, {7, 1, 1, api.ErrLarge}, {7, 0, 0, api.ErrLarge}, {6, 1, 6, api.OK}, {6, 1, 7, api.ErrLarge}, {0, 2, 4, api.ErrLarge}, {6, 0, 20, api.OK}} {
		small := api.Grid{Rooms: g.Rooms[:c.rooms], Slots: g.Slots[:c.slots], Talks: g.Talks[:c.talks]}
		p, cost, e := program.Best(small)
		is(t, all(c, e), all(c, c.want))
		if e != api.OK {
			is(t, all(p, cost), all([]api.Session{}, 0))
		}
	}
}

// P8.4: Best, compared with a plain version. What follows: no programme is better.
func TestBestPlainly(t *testing.T) {
	d := dice(17)
	for range 150 {
		g := d.grid(t, 4, 2, 2)
		want, cost := plainBest(g)
		is(t, pack3(program.Best(g)), all(want, cost, api.OK))
		for range 5 {
			is(t, plainCost(g, d.programme(t, g)) >= cost, true)
		}
	}
}

// plainBest looks at all lists of places, the least one first.
func plainBest(g api.Grid) ([]api.Session, int) {
	var best []api.Session
	least := math.MaxInt
	var place func(p []api.Session, rest []api.Talk)
	place = func(p []api.Session, rest []api.Talk) {
		if len(rest) == 0 {
			if cost := plainCost(g, p); plainCheck(g, p) == api.OK && cost < least {
				best, least = p, cost
			}
			return
		}
		place(p, rest[1:])
		for _, s := range g.Slots {
			for _, r := range g.Rooms {
				place(plainPut(p, rest[0].Paper, s.Key, r.Key, -1), rest[1:])
			}
		}
	}
	place(nil, g.Talks)
	return best, least
}

// hard is a grid of as many talks and places as there can be, in which little excludes anything, and everything costs something.
func hard(talks, slots, rooms int) api.Grid {
	g := greatest()
	g = api.Grid{Rooms: g.Rooms[:rooms], Slots: g.Slots[:slots], Talks: g.Talks[:talks], Wishes: g.Wishes, Bans: g.Bans}
	for i := range g.Slots {
		g.Slots[i].From = i * 720
	}
	for i := range g.Talks {
		g.Talks[i].Topics = []string{fmt.Sprintf("k%04d", i%4)}
	}
	for i := range g.Wishes {
		g.Wishes[i].Papers = nil
		for j, key := range keys(talks) {
			if (i*(j+3)+j*j)%5 < 2 {
				g.Wishes[i].Papers = append(g.Wishes[i].Papers, key)
			}
		}
	}
	g.Bans = slices.DeleteFunc(g.Bans, func(b api.Ban) bool { return b.Slot >= keys(slots + 1)[slots] })
	return g
}

// P8.4: Best and Improve of as much as there can be.
func TestBestOfMost(t *testing.T) {
	for _, c := range []struct{ slots, rooms int }{{6, 1}, {3, 2}, {2, 3}, {1, 6}} {
		g := hard(api.MaxSmall, c.slots, c.rooms)
		best, least, e := program.Best(g)
		is(t, all(e, plainCheck(g, best), plainCost(g, best)), all(api.OK, api.OK, least))
		improved, cost, e := program.Improve(g, nil, 100)
		is(t, all(e, plainCheck(g, improved), plainCost(g, improved), cost >= least), all(api.OK, api.OK, cost, true))
	}
	for _, c := range []struct{ slots, rooms int }{{12, 1}, {4, 3}, {1, 12}} {
		g := hard(api.MaxMoves, c.slots, c.rooms)
		improved, cost, e := program.Improve(g, nil, 100)
		is(t, all(e, plainCheck(g, improved), plainCost(g, improved), cost < 12_000), all(api.OK, api.OK, cost, true))
	}
}

// P8.4: moves, and which one of several.
func TestImprove(t *testing.T) {
	two := slots("i 0 10", "j 10 10")
	g := api.Grid{Rooms: rooms("a 1", "b 1"), Slots: two, Talks: talks("p 1 x a", "q 1 y b", "r 1 z a")}
	full := api.Grid{Rooms: rooms("a 1", "b 9"), Slots: two[:1], Talks: talks("p 5 x a", "q 5 y b", "r 5 z a", "s 5 w b")}
	for _, c := range []struct {
		g      api.Grid
		p      []api.Session
		rounds int
		want   []api.Session
		cost   int
	}{
		{api.Grid{}, nil, 9, nil, 0},
		{g, nil, 0, nil, 3_000},
		// The first talk at the first place; then the next one where this costs nothing, first in another session, because then it has the lesser place.
		{g, nil, 1, sessions("i a p"), 2_000},
		{g, nil, 2, sessions("i a p", "i b q"), 1_000},
		{g, nil, 3, sessions("i a p r", "i b q"), 0},
		{g, nil, 100, sessions("i a p r", "i b q"), 0},
		// Nothing is changed without need.
		{g, sessions("j a r p", "j b q"), 100, sessions("j a r p", "j b q"), 0},
		// At the end of a session that is there, though the paper is less.
		{g, sessions("i a q", "i b r"), 1, sessions("i a q", "i b r p"), 0},
		// A talk moves out of a session, and its session is gone with its last one.
		{g, sessions("j b p q r"), 1, sessions("i a q", "j b p r"), 0},
		{api.Grid{Rooms: g.Rooms, Slots: two, Talks: g.Talks, Wishes: wishes("w p q")}, sessions("i a p", "i b q", "j a r"), 1, sessions("i b q", "j a r p"), 0},
		// Only an exchange helps; each one gets the number of the other one.
		{full, sessions("i a q p", "i b r s"), 1, sessions("i a q s", "i b r p"), 0},
		{full, sessions("i a p q", "i b r s"), 100, sessions("i a s q", "i b r p"), 0},
		// Something has to be missing.
		{api.Grid{Rooms: rooms("a 1"), Slots: two[:1], Talks: talks("p 9 y -", "q 9 z -"), Wishes: wishes("w q", "x q")}, sessions("i a q"), 5, sessions("i a q"), 1_001},
		{api.Grid{Rooms: rooms("a 1", "b 1"), Slots: two[:1], Talks: talks("p 9 x -", "q 9 y -"), Wishes: many(11, "p q")}, sessions("i a p", "i b q"), 5, sessions("i b q"), 1_010},
	} {
		is(t, all(c.g, c.p, c.rounds, pack3(program.Improve(c.g, c.p, c.rounds))), all(c.g, c.p, c.rounds, all(c.want, c.cost, api.OK)))
	}
}

// many are the same wishes of so many persons.
func many(n int, papers string) []api.Wish {
	var l []api.Wish
	for _, key := range keys(n) {
		l = append(l, wishes(key+" "+papers)...)
	}
	return l
}

// P8.4: the errors of Improve.
func TestImproveErrors(t *testing.T) {
	g := greatest()
	g.Wishes, g.Bans = nil, nil
	for _, c := range []struct {
		talks, slots, rooms, rounds int
		want                        api.Errno
	}{
		{12, 3, 4, 0, api.OK}, {12, 3, 4, 100, api.OK}, {12, 0, 20, 1, api.OK}, {13, 1, 1, 1, api.ErrLarge}, {12, 1, 13, 1, api.ErrLarge}, {0, 20, 1, 0, api.ErrLarge},
		{12, 3, 4, -1, api.ErrArg}, {12, 3, 4, 101, api.ErrArg}, {13, 1, 1, math.MinInt, api.ErrArg}, {12, 1, 13, math.MaxInt, api.ErrArg},
	} {
		p, cost, e := program.Improve(api.Grid{Rooms: g.Rooms[:c.rooms], Slots: g.Slots[:c.slots], Talks: g.Talks[:c.talks]}, nil, c.rounds)
		is(t, all(c, e), all(c, c.want))
		if e != api.OK {
			is(t, all(p, cost), all([]api.Session{}, 0))
		}
	}
}

// P8.4: Improve, compared with a plain version. What follows: it never makes a programme worse, nor better than the best one.
func TestImprovePlainly(t *testing.T) {
	d := dice(19)
	moved := 0
	for range 500 {
		g := d.grid(t, 5, 3, 2)
		p := d.programme(t, g)
		rounds := d.below(5)
		want := p
		for range rounds {
			want = plainImproved(g, want)
		}
		cost := plainCost(g, want)
		is(t, pack3(program.Improve(g, p, rounds)), all(want, cost, api.OK))
		if show(want) != show(p) {
			moved++
		}
		is(t, cost <= plainCost(g, p), true)
		if _, least, e := program.Best(g); e != api.OK || cost < least {
			t.Error(e, cost, least)
		}
	}
	is(t, moved > 100, true)
}

// plainImproved is the programme after the first one of the best moves, if there is one.
func plainImproved(g api.Grid, p []api.Session) []api.Session {
	best, least := p, plainCost(g, p)
	try := func(next []api.Session) {
		if cost := plainCost(g, next); plainCheck(g, next) == api.OK && cost < least {
			best, least = next, cost
		}
	}
	for _, x := range g.Talks {
		own, i := plainWhere(p, x.Paper)
		if i >= 0 {
			try(plainTake(p, x.Paper))
		}
		for _, s := range g.Slots {
			for _, r := range g.Rooms {
				if i < 0 || own.Slot != s.Key || own.Room != r.Key {
					try(plainPut(plainTake(p, x.Paper), x.Paper, s.Key, r.Key, -1))
				}
			}
		}
	}
	for i, x := range g.Talks {
		for _, y := range g.Talks[i+1:] {
			a, m := plainWhere(p, x.Paper)
			b, n := plainWhere(p, y.Paper)
			if m >= 0 && n >= 0 && (a.Slot != b.Slot || a.Room != b.Room) {
				try(plainSwap(p, x.Paper, y.Paper))
			}
		}
	}
	return best
}

// plainSwap is a programme in which two papers have changed their places.
func plainSwap(p []api.Session, a, b string) []api.Session {
	next := plainTake(p, "")
	for _, s := range next {
		for i, paper := range s.Papers {
			switch paper {
			case a:
				s.Papers[i] = b
			case b:
				s.Papers[i] = a
			}
		}
	}
	return next
}
