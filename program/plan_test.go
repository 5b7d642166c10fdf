package program_test

import (
	"math"
	"slices"
	"strings"
	"testing"

	"rebuttal/api"
	"rebuttal/program"
)

func newPlan(t *testing.T, g api.Grid) *program.Plan {
	t.Helper()
	x, e := program.New(g)
	is(t, e, api.OK)
	return x
}

// edit makes an edit of words: place a paper in a room and a slot before a number, take one, swap two, undo, redo.
func edit(x *program.Plan, words string) api.Errno {
	w := strings.Fields(words)
	switch w[0] {
	case "place":
		return x.Place(w[1], w[2], w[3], number(w[4]))
	case "take":
		return x.Take(w[1])
	case "swap":
		return x.Swap(w[1], w[2])
	case "undo":
		return x.Undo()
	}
	return x.Redo()
}

// P8.7: edits, one after the other, and the programme after each one.
func TestPlan(t *testing.T) {
	x := newPlan(t, example())
	is(t, x.Sessions(), []api.Session{})
	for _, c := range []struct {
		edit string
		want api.Errno
		p    []api.Session
	}{
		{"undo", api.ErrNone, nil},
		{"redo", api.ErrNone, nil},
		{"take p", api.ErrState, nil},
		{"swap p q", api.ErrState, nil},
		{"place p big am 0", api.OK, sessions("am big p")},
		{"place q big am 0", api.OK, sessions("am big q p")},
		{"redo", api.ErrNone, sessions("am big q p")},
		// Before itself, behind itself, where it is; the others are counted without it.
		{"place q big am 1", api.OK, sessions("am big p q")},
		{"place q big am 1", api.OK, sessions("am big p q")},
		{"place q big am 2", api.ErrArg, sessions("am big p q")},
		{"place t big am 2", api.ErrFull, sessions("am big p q")},
		{"place r tiny am 0", api.ErrConflict, sessions("am big p q")},
		{"place q tiny pm 0", api.ErrState, sessions("am big p q")},
		{"place s tiny mid 0", api.OK, sessions("am big p q", "mid tiny s")},
		{"place t big pm 0", api.OK, sessions("am big p q", "mid tiny s", "pm big t")},
		{"place r big pm 0", api.OK, sessions("am big p q", "mid tiny s", "pm big r t")},
		// Within a session, and between two.
		{"swap q p", api.OK, sessions("am big q p", "mid tiny s", "pm big r t")},
		{"swap p t", api.OK, sessions("am big q t", "mid tiny s", "pm big r p")},
		{"swap q r", api.ErrState, sessions("am big q t", "mid tiny s", "pm big r p")},
		{"swap q s", api.ErrFull, sessions("am big q t", "mid tiny s", "pm big r p")},
		{"swap u q", api.ErrState, sessions("am big q t", "mid tiny s", "pm big r p")},
		{"swap t s", api.ErrState, sessions("am big q t", "mid tiny s", "pm big r p")},
		{"swap r q", api.ErrState, sessions("am big q t", "mid tiny s", "pm big r p")},
		{"swap t r", api.OK, sessions("am big q r", "mid tiny s", "pm big t p")},
		{"undo", api.OK, sessions("am big q t", "mid tiny s", "pm big r p")},
		{"undo", api.OK, sessions("am big q p", "mid tiny s", "pm big r t")},
		{"undo", api.OK, sessions("am big p q", "mid tiny s", "pm big r t")},
		{"redo", api.OK, sessions("am big q p", "mid tiny s", "pm big r t")},
		{"redo", api.OK, sessions("am big q t", "mid tiny s", "pm big r p")},
		{"undo", api.OK, sessions("am big q p", "mid tiny s", "pm big r t")},
		// What fails changes nothing, so what was taken back can still be made again.
		{"take x", api.ErrNone, sessions("am big q p", "mid tiny s", "pm big r t")},
		{"swap p p", api.ErrTwice, sessions("am big q p", "mid tiny s", "pm big r t")},
		{"redo", api.OK, sessions("am big q t", "mid tiny s", "pm big r p")},
		{"undo", api.OK, sessions("am big q p", "mid tiny s", "pm big r t")},
		// A session is gone with its last talk, and comes back.
		{"take s", api.OK, sessions("am big q p", "pm big r t")},
		{"redo", api.ErrNone, sessions("am big q p", "pm big r t")},
		{"take s", api.ErrState, sessions("am big q p", "pm big r t")},
		{"undo", api.OK, sessions("am big q p", "mid tiny s", "pm big r t")},
		{"redo", api.OK, sessions("am big q p", "pm big r t")},
		// From one session to another one, and back to where it was.
		{"place q tiny zz 0", api.OK, sessions("am big p", "pm big r t", "zz tiny q")},
		{"place p tiny zz 0", api.ErrFull, sessions("am big p", "pm big r t", "zz tiny q")},
		{"undo", api.OK, sessions("am big q p", "pm big r t")},
		{"undo", api.OK, sessions("am big q p", "mid tiny s", "pm big r t")},
		{"undo", api.OK, sessions("am big p q", "mid tiny s", "pm big r t")},
		{"undo", api.OK, sessions("am big p q", "mid tiny s", "pm big t")},
		{"undo", api.OK, sessions("am big p q", "mid tiny s")},
		{"undo", api.OK, sessions("am big p q")},
		// An edit that leads to the same is one, too.
		{"undo", api.OK, sessions("am big p q")},
		{"undo", api.OK, sessions("am big q p")},
		{"undo", api.OK, sessions("am big p")},
		{"undo", api.OK, nil},
		{"undo", api.ErrNone, nil},
		{"redo", api.OK, sessions("am big p")},
		{"redo", api.OK, sessions("am big q p")},
		{"redo", api.OK, sessions("am big p q")},
		{"redo", api.OK, sessions("am big p q")},
		{"take p", api.OK, sessions("am big q")},
		{"redo", api.ErrNone, sessions("am big q")},
	} {
		is(t, all(c.edit, edit(x, c.edit), x.Sessions()), all(c.edit, c.want, c.p))
	}
}

// P8.7: the errors of Place, Take and Swap, in order.
func TestPlanErrors(t *testing.T) {
	x := newPlan(t, example())
	for _, words := range []string{"place p big am 0", "place q big am 1", "place s tiny mid 0"} {
		is(t, edit(x, words), api.OK)
	}
	for words, want := range map[string]api.Errno{
		"place x ? ? -1":         api.ErrNone,
		"place am big am 0":      api.ErrNone,
		"place p ? am -1":        api.ErrNone,
		"place p am am 0":        api.ErrNone,
		"place p big ? -1":       api.ErrNone,
		"place p big big 0":      api.ErrNone,
		"place p big am -1":      api.ErrArg,
		"place p big am 2":       api.ErrArg,
		"place t big am 3":       api.ErrArg,
		"place t tiny pm 1":      api.ErrArg,
		"place s tiny mid 1":     api.ErrArg,
		"place u big zz 1":       api.ErrArg,
		"place u big zz 0":       api.ErrFull,
		"place u big mid 0":      api.ErrFull,
		"place t big mid 0":      api.ErrConflict,
		"place r tiny am 0":      api.ErrConflict,
		"place s tiny zz 0":      api.ErrFull,
		"place q big pm 0":       api.ErrState,
		"take x":                 api.ErrNone,
		"take am":                api.ErrNone,
		"take t":                 api.ErrState,
		"swap x y":               api.ErrNone,
		"swap x x":               api.ErrNone,
		"swap x p":               api.ErrNone,
		"swap p x":               api.ErrNone,
		"swap t t":               api.ErrTwice,
		"swap p p":               api.ErrTwice,
		"swap p t":               api.ErrState,
		"swap t p":               api.ErrState,
		"swap t u":               api.ErrState,
		"swap p s":               api.ErrState,
		"place p big am 9999999": api.ErrArg,
	} {
		is(t, all(words, edit(x, words), x.Sessions()), all(words, want, sessions("am big p q", "mid tiny s")))
	}
	for _, at := range []int{math.MinInt, math.MaxInt} {
		is(t, x.Place("t", "big", "am", at), api.ErrArg)
	}
	for _, key := range badKeys {
		is(t, all(x.Place(key, "big", "am", 0), x.Place("p", key, "am", 0), x.Place("p", "big", key, 0), x.Take(key), x.Swap(key, "p"), x.Swap("p", key)), all(slices.Repeat([]any{api.ErrNone}, 6)...))
	}
	// Nothing of this was an edit.
	is(t, all(x.Undo(), x.Sessions()), all(api.OK, sessions("am big p q")))
}

// model is a plan that keeps all programmes.
type model struct {
	grid  api.Grid
	past  [][]api.Session
	ahead [][]api.Session
	now   []api.Session
}

func (m *model) place(paper, room, slot string, at int) api.Errno {
	_, knownPaper := plainTalk(m.grid, paper)
	_, knownRoom := plainRoom(m.grid, room)
	_, knownSlot := plainSlot(m.grid, slot)
	if !knownPaper || !knownRoom || !knownSlot {
		return api.ErrNone
	}
	next := plainTake(m.now, paper)
	many := 0
	for _, s := range next {
		if s.Slot == slot && s.Room == room {
			many = len(s.Papers)
		}
	}
	if at < 0 || at > many {
		return api.ErrArg
	}
	return m.change(plainPut(next, paper, slot, room, at))
}

func (m *model) take(paper string) api.Errno {
	if _, known := plainTalk(m.grid, paper); !known {
		return api.ErrNone
	}
	if _, i := plainWhere(m.now, paper); i < 0 {
		return api.ErrState
	}
	return m.change(plainTake(m.now, paper))
}

func (m *model) swap(a, b string) api.Errno {
	_, knownA := plainTalk(m.grid, a)
	_, knownB := plainTalk(m.grid, b)
	_, i := plainWhere(m.now, a)
	_, j := plainWhere(m.now, b)
	switch {
	case !knownA || !knownB:
		return api.ErrNone
	case a == b:
		return api.ErrTwice
	case i < 0 || j < 0:
		return api.ErrState
	}
	return m.change(plainSwap(m.now, a, b))
}

func (m *model) change(next []api.Session) api.Errno {
	if e := plainCheck(m.grid, next); e != api.OK {
		return e
	}
	m.past, m.ahead, m.now = append(m.past, m.now), nil, next
	return api.OK
}

// back goes from the present one to the last of some programmes, and keeps it in others.
func (m *model) back(from, to *[][]api.Session) api.Errno {
	last := len(*from) - 1
	if last < 0 {
		return api.ErrNone
	}
	*to = append(*to, m.now)
	m.now, *from = (*from)[last], (*from)[:last]
	return api.OK
}

// known throws one of the first n strings of a list, or seldom any one.
func (d *dice) known(l []string, n int) func() string {
	return func() string {
		if n == 0 || d.below(15) == 0 {
			return d.pick(l)
		}
		return d.pick(l[:n])
	}
}

// P8.7: plans, compared with plain ones. What follows: after Undo the programme is the one before, after Redo the one before Undo; Check accepts it always.
func TestPlanPlainly(t *testing.T) {
	d := dice(37)
	count := map[api.Errno]int{}
	for range 400 {
		g := d.grid(t, 7, 4, 3)
		x, m := newPlan(t, g), &model{grid: g}
		papers, rooms, slots := d.known(somePapers, len(g.Talks)), d.known(someRooms, len(g.Rooms)), d.known(someSlots, len(g.Slots))
		for range 60 {
			paper, other := papers(), papers()
			room, slot, at := rooms(), slots(), d.below(5)-1
			var got, want api.Errno
			switch d.below(8) {
			case 0:
				got, want = x.Take(paper), m.take(paper)
			case 1:
				got, want = x.Swap(paper, other), m.swap(paper, other)
			case 2, 3:
				got, want = x.Undo(), m.back(&m.past, &m.ahead)
			case 4:
				got, want = x.Redo(), m.back(&m.ahead, &m.past)
			default:
				got, want = x.Place(paper, room, slot, at), m.place(paper, room, slot, at)
			}
			count[want]++
			is(t, all(got, x.Sessions()), all(want, m.now))
			is(t, program.Check(g, x.Sessions()), api.OK)
		}
	}
	for _, e := range []api.Errno{api.OK, api.ErrNone, api.ErrArg, api.ErrTwice, api.ErrFull, api.ErrConflict, api.ErrState} {
		if count[e] < 50 {
			t.Error(e, count[e])
		}
	}
}

// Z2: a plan does not look at the caller's grid again, and what it returns is new memory.
func TestPlanMemory(t *testing.T) {
	g := example()
	x := newPlan(t, g)
	is(t, x.Place("p", "big", "am", 0), api.OK)
	for i := range g.Talks {
		g.Talks[i].Paper, g.Talks[i].Long = "z", 9_999
		g.Talks[i].Speakers[0] = "z"
	}
	for i := range g.Slots {
		g.Slots[i] = api.Slot{Key: "z"}
	}
	clear(g.Rooms)
	clear(g.Bans)
	l := x.Sessions()
	is(t, l, sessions("am big p"))
	l[0].Papers[0] = "q"
	l[0].Slot = "pm"
	is(t, x.Sessions(), sessions("am big p"))
	is(t, all(x.Place("t", "tiny", "am", 0), x.Place("r", "big", "pm", 0), x.Place("q", "tiny", "pm", 0)), all(api.OK, api.OK, api.ErrState))
	is(t, all(x.Undo(), x.Sessions()), all(api.OK, sessions("am big p", "am tiny t")))
}

// P8.7: many edits of the greatest plan.
func TestPlanOfMost(t *testing.T) {
	g, p := greatest(), spread()
	x := newPlan(t, g)
	for range 5 {
		for i, s := range p {
			is(t, x.Place(s.Papers[0], s.Room, s.Slot, 0), api.OK)
			if i > 0 {
				is(t, x.Swap(s.Papers[0], p[i-1].Papers[0]), api.OK)
			}
		}
	}
	for range 5 * (len(p) + len(p) - 1) {
		is(t, x.Undo(), api.OK)
	}
	is(t, all(x.Undo(), x.Sessions()), all(api.ErrNone, []api.Session{}))
	for range len(p) + len(p) - 1 {
		is(t, x.Redo(), api.OK)
	}
	is(t, len(x.Sessions()), 200)
}
