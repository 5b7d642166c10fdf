package program_test

import (
	"math"
	"slices"
	"strings"
	"testing"

	"rebuttal/api"
	"rebuttal/program"
)

// P8.1: grids that are right.
func TestCheckGrid(t *testing.T) {
	for _, g := range []api.Grid{
		{},
		example(),
		greatest(),
		{Rooms: rooms("a 1", "b 10000"), Slots: slots("a 0 1", "b 0 1440", "c 5761439 1440")},
		{Talks: talks("a 1 z -", "b 1440 z a+b+c+d+e+f+g+h")},
		{Wishes: wishes("a", "b")},
		{Slots: slots("i 0 1", "j 0 1"), Bans: bans("a j", "b i", "b j")},
	} {
		is(t, program.CheckGrid(g), api.OK)
	}
}

// P8.1: the errors of rooms and slots, in order.
func TestCheckRooms(t *testing.T) {
	g := api.Grid{Rooms: make([]api.Room, api.MaxRooms+1), Slots: make([]api.Slot, api.MaxSlots+1), Talks: make([]api.Talk, api.MaxTalks+1)}
	climb(t, g, program.CheckGrid, []rung[api.Grid]{
		{api.ErrLarge, func(g *api.Grid) { g.Rooms = rooms("b 0", "A 0", "a 1") }},
		{api.ErrArg, func(g *api.Grid) { g.Rooms = rooms("b 1", "B 0", "a 1") }},
		{api.ErrName, func(g *api.Grid) { g.Rooms = rooms("b 1", "b 0", "A 1") }},
		{api.ErrOrder, func(g *api.Grid) { g.Rooms = rooms("b 1", "a 1") }},
		{api.ErrOrder, func(g *api.Grid) { g.Rooms = rooms("a 1", "b 10001", "B 0") }},
		{api.ErrArg, func(g *api.Grid) { g.Rooms = rooms("a 1", "b -1") }},
		{api.ErrArg, func(g *api.Grid) { g.Rooms = rooms("a 1", "b 10000") }},
		{api.ErrLarge, func(g *api.Grid) { g.Slots = slots("b -1 1", "B 0 1") }},
		{api.ErrArg, func(g *api.Grid) { g.Slots = slots("b 1 0", "B 0 1") }},
		{api.ErrArg, func(g *api.Grid) { g.Slots = slots("b 1 1", "B 0 0") }},
		{api.ErrName, func(g *api.Grid) { g.Slots = slots("b 1 1", "b 0 0", "B 0 1") }},
		{api.ErrOrder, func(g *api.Grid) { g.Slots = slots("b 1 1", "a 0 0") }},
		{api.ErrOrder, func(g *api.Grid) { g.Slots = slots("b 1 1", "c 1 1441", "a 0 1") }},
		{api.ErrArg, func(g *api.Grid) { g.Slots = slots("b 1 1", "c 5761440 1") }},
		{api.ErrArg, func(g *api.Grid) { g.Slots = slots("b 1 1", "c 5761439 1440") }},
		{api.ErrLarge, func(g *api.Grid) { g.Talks = nil }},
	})
	for _, n := range []int{math.MinInt, -1, 0, math.MaxInt} {
		is(t, program.CheckGrid(api.Grid{Rooms: []api.Room{{Key: "a", Seats: n}}}), api.ErrArg)
		is(t, program.CheckGrid(api.Grid{Slots: []api.Slot{{Key: "a", Long: n}}}), api.ErrArg)
	}
	for _, n := range []int{math.MinInt, -1, api.End, math.MaxInt} {
		is(t, program.CheckGrid(api.Grid{Slots: []api.Slot{{Key: "a", From: n, Long: 1}}}), api.ErrArg)
	}
}

// P8.1: the errors of talks, in order.
func TestCheckTalks(t *testing.T) {
	check := func(l []api.Talk) api.Errno {
		e := program.CheckGrid(api.Grid{Talks: l})
		// Wishes come behind talks.
		if e != api.OK {
			is(t, program.CheckGrid(api.Grid{Talks: l, Wishes: make([]api.Wish, api.MaxWishes+1)}), e)
		}
		return e
	}
	many, wide := strings.Join(keys(api.MaxAuthors+1), "+"), "a+b+c+d+e+f+g+h+i"
	climb(t, make([]api.Talk, api.MaxTalks+1), check, []rung[[]api.Talk]{
		{api.ErrLarge, func(l *[]api.Talk) { *l = talks("P 0 - -", "p 0 A A", "q 0 a A") }},
		{api.ErrName, at(0, func(x *api.Talk) { x.Paper = "p" })},
		{api.ErrNone, at(0, func(x *api.Talk) { x.Speakers = list("A+" + many) })},
		{api.ErrLarge, at(0, func(x *api.Talk) { x.Speakers = list("b+A+a") })},
		{api.ErrName, at(0, func(x *api.Talk) { x.Speakers = list("b+b+A") })},
		{api.ErrOrder, at(0, func(x *api.Talk) { x.Speakers = list("b+a") })},
		{api.ErrOrder, at(0, func(x *api.Talk) { x.Speakers, x.Topics = list("a+b"), list("A+"+wide) })},
		{api.ErrLarge, at(0, func(x *api.Talk) { x.Topics = list("b+A+a") })},
		{api.ErrName, at(0, func(x *api.Talk) { x.Topics = list("b+b+A") })},
		{api.ErrOrder, at(0, func(x *api.Talk) { x.Topics = list("b+a") })},
		{api.ErrOrder, at(0, func(x *api.Talk) { x.Topics = list("a+b") })},
		{api.ErrArg, at(0, func(x *api.Talk) { x.Long = api.DayLong + 1 })},
		{api.ErrArg, at(0, func(x *api.Talk) { x.Long = 1 })},
		{api.ErrOrder, at(1, func(x *api.Talk) { x.Paper = "o" })},
		{api.ErrOrder, at(1, func(x *api.Talk) { x.Paper = "pp" })},
		{api.ErrName, at(1, func(x *api.Talk) { x.Speakers = list("a") })},
		{api.ErrName, at(1, func(x *api.Talk) { x.Topics = nil })},
		{api.ErrArg, at(1, func(x *api.Talk) { x.Long = api.DayLong })},
		{api.ErrName, func(l *[]api.Talk) { *l = (*l)[:2] }},
	})
	for _, n := range []int{math.MinInt, -1, 0, math.MaxInt} {
		is(t, check([]api.Talk{{Paper: "p", Speakers: []string{"a"}, Long: n}}), api.ErrArg)
	}
}

// P8.1: the errors of wishes and bans, in order.
func TestCheckWishes(t *testing.T) {
	check := func(g api.Grid) api.Errno {
		g.Slots, g.Talks = example().Slots, example().Talks
		return program.CheckGrid(g)
	}
	climb(t, api.Grid{Wishes: make([]api.Wish, api.MaxWishes+1), Bans: make([]api.Ban, 501)}, check, []rung[api.Grid]{
		{api.ErrLarge, func(g *api.Grid) { g.Wishes = wishes("A x", "b x", "a p") }},
		{api.ErrName, func(g *api.Grid) { g.Wishes = wishes("b q p x", "B", "b p") }},
		{api.ErrOrder, func(g *api.Grid) { g.Wishes = wishes("b q x p", "B", "b p") }},
		{api.ErrNone, func(g *api.Grid) { g.Wishes = wishes("b p p", "B", "b p") }},
		{api.ErrOrder, func(g *api.Grid) { g.Wishes = wishes("b p q", "b x", "B p") }},
		{api.ErrOrder, func(g *api.Grid) { g.Wishes = wishes("b p q", "a p") }},
		{api.ErrOrder, func(g *api.Grid) { g.Wishes = wishes("b p q", "c p", "z ann") }},
		{api.ErrNone, func(g *api.Grid) { g.Wishes = wishes("b p q", "c p", "z u") }},
		{api.ErrLarge, func(g *api.Grid) { g.Bans = bans("A x", "a x", "a am") }},
		{api.ErrName, func(g *api.Grid) { g.Bans = bans("b x", "B am", "a am") }},
		{api.ErrNone, func(g *api.Grid) { g.Bans = bans("b am", "B am", "a am") }},
		{api.ErrName, func(g *api.Grid) { g.Bans = bans("b am", "a p", "a am") }},
		{api.ErrNone, func(g *api.Grid) { g.Bans = bans("b am", "a pm") }},
		{api.ErrOrder, func(g *api.Grid) { g.Bans = bans("b am", "b am") }},
		{api.ErrOrder, func(g *api.Grid) { g.Bans = bans("b pm", "b am") }},
		{api.ErrOrder, func(g *api.Grid) { g.Bans = bans("a pm", "b am", "b pm") }},
	})
}

// P8.1: strings that are no keys.
func TestCheckGridKeys(t *testing.T) {
	for _, key := range badKeys {
		for _, g := range []api.Grid{
			{Rooms: []api.Room{{Key: key, Seats: 1}}},
			{Slots: []api.Slot{{Key: key, Long: 1}}},
			{Talks: []api.Talk{{Paper: key, Speakers: []string{"a"}, Long: 1}}},
			{Talks: []api.Talk{{Paper: "p", Speakers: []string{key}, Long: 1}}},
			{Talks: []api.Talk{{Paper: "p", Speakers: []string{"a"}, Topics: []string{key}, Long: 1}}},
			{Wishes: []api.Wish{{Person: key}}},
			{Slots: slots("am 0 1"), Bans: []api.Ban{{Person: key, Slot: "am"}}},
		} {
			is(t, program.CheckGrid(g), api.ErrName)
		}
		is(t, program.CheckGrid(api.Grid{Talks: example().Talks, Wishes: []api.Wish{{Person: "a", Papers: []string{key}}}}), api.ErrNone)
		is(t, program.CheckGrid(api.Grid{Slots: example().Slots, Bans: []api.Ban{{Person: "a", Slot: key}}}), api.ErrNone)
	}
}

// wrongGrids are grids with each of the errors.
func wrongGrids() map[api.Errno]api.Grid {
	l := map[api.Errno]api.Grid{}
	for e, wrong := range map[api.Errno]func(*api.Grid){
		api.ErrLarge: func(g *api.Grid) { g.Rooms = greatest().Rooms; g.Rooms = append(g.Rooms, api.Room{Key: "z", Seats: 1}) },
		api.ErrName:  func(g *api.Grid) { g.Slots[0].Key = "Am" },
		api.ErrOrder: func(g *api.Grid) { slices.Reverse(g.Bans) },
		api.ErrArg:   func(g *api.Grid) { g.Talks[0].Long = 0 },
		api.ErrNone:  func(g *api.Grid) { g.Wishes[0].Papers[0] = "a" },
	} {
		g := example()
		wrong(&g)
		l[e] = g
	}
	return l
}

// P8.1, P8.2: all functions return the error of the grid first, then that of the programme.
func TestErrorsOfGridsAndProgrammes(t *testing.T) {
	wrong := inputs{sessions: []api.Session{{}}, person: "?", paper: "?", rounds: -1, chairs: []api.Chair{{}}, text: "?"}
	for want, g := range wrongGrids() {
		wrong.grid = g
		is(t, program.CheckGrid(g), want)
		for name, r := range wrong.results() {
			if r[len(r)-1] != want {
				t.Error(name, show(r), want)
			}
		}
		x, e := program.New(g)
		is(t, all(x == nil, e), all(true, want))
	}
	wrong.grid = example()
	for want, p := range wrongProgrammes() {
		wrong.sessions = p
		is(t, program.Check(example(), p), want)
		for name, r := range wrong.ofProgrammes() {
			if r[len(r)-1] != want {
				t.Error(name, show(r), want)
			}
		}
	}
}

// P8.1: which slots overlap.
func TestOverlaps(t *testing.T) {
	for _, c := range []struct {
		a, b string
		want bool
	}{
		{"a 10 5", "b 10 5", true},
		{"a 10 5", "a 10 5", true},
		{"a 10 5", "b 14 5", true},
		{"a 10 5", "b 15 5", false},
		{"a 10 5", "b 11 2", true},
		{"a 10 5", "b 6 5", true},
		{"a 10 5", "b 5 5", false},
		// Slots of no minutes.
		{"a 10 5", "b 11 0", true},
		{"a 10 5", "b 14 0", true},
		{"a 10 5", "b 10 0", false},
		{"a 10 5", "b 15 0", false},
		{"a 10 0", "b 10 0", false},
		{"a 10 0", "b 11 0", false},
		// Slots at the bounds, and beyond them.
		{"a 0 1440", "b 1439 1440", true},
		{"a 5761440 1440", "b 5761440 1", true},
		{"a 5761440 0", "b 5761439 1440", true},
		{"a 5761441 1440", "b 5761440 1440", false},
		{"a 10 1441", "b 10 5", false},
		{"a -1 5", "b 0 5", false},
		{"a 10 -1", "b 5 20", false},
		{"a 9223372036854775807 5", "b 10 5", false},
		{"a -9223372036854775808 1440", "b 0 1440", false},
		{"a 10 9223372036854775807", "b 10 5", false},
		{"a 10 -9223372036854775808", "b 10 5", false},
		{"a 9223372036854775807 9223372036854775807", "b 9223372036854775807 9223372036854775807", false},
	} {
		l := slots(c.a, c.b)
		is(t, all(c.a, c.b, program.Overlaps(l[0], l[1]), program.Overlaps(l[1], l[0])), all(c.a, c.b, c.want, c.want))
	}
	// Keys count for nothing.
	is(t, program.Overlaps(api.Slot{Key: "?", Long: 1}, api.Slot{Key: "", Long: 1}), true)
	for from := range 12 {
		for long := range 9 {
			a, b := api.Slot{From: 4, Long: 4}, api.Slot{From: from, Long: long}
			common := long == 0 && from > 4 && from < 8
			for minute := from; minute < from+long; minute++ {
				common = common || minute >= 4 && minute < 8
			}
			is(t, all(b, program.Overlaps(a, b), program.Overlaps(b, a)), all(b, common, common))
		}
	}
}
