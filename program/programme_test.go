package program_test

import (
	"slices"
	"testing"

	"rebuttal/api"
	"rebuttal/program"
)

// P8.2: programmes that are right, and those that are not, with their errors in order.
func TestCheck(t *testing.T) {
	for _, p := range [][]api.Session{nil, some(), sessions("am tiny t"), sessions("zz big t"), sessions("am big p", "am tiny t")} {
		is(t, program.Check(example(), p), api.OK)
	}
	is(t, program.Check(greatest(), spread()), api.OK)
	is(t, program.Check(greatest(), []api.Session{{Slot: "k0039", Room: "k0019", Papers: keys(api.MaxTalks)}}), api.OK)
	check := func(p []api.Session) api.Errno { return program.Check(example(), p) }
	climb(t, make([]api.Session, api.MaxRooms*api.MaxSlots+1), check, []rung[[]api.Session]{
		{api.ErrLarge, func(p *[]api.Session) { *p = (*p)[:api.MaxRooms*api.MaxSlots] }},
		{api.ErrNone, func(p *[]api.Session) { *p = sessions("mid bad", "bad big p") }},
		{api.ErrNone, func(p *[]api.Session) { *p = sessions("mid tiny", "bad big p") }},
		{api.ErrForm, func(p *[]api.Session) { *p = sessions("mid tiny p x p", "mid bad") }},
		{api.ErrNone, func(p *[]api.Session) { *p = sessions("mid tiny p p x", "mid bad") }},
		{api.ErrTwice, func(p *[]api.Session) { *p = sessions("mid tiny p q r s", "bad tiny") }},
		{api.ErrFull, func(p *[]api.Session) { *p = sessions("mid tiny p q", "bad tiny") }},
		{api.ErrNone, func(p *[]api.Session) { *p = sessions("mid tiny p q", "am bad") }},
		{api.ErrNone, func(p *[]api.Session) { *p = sessions("mid tiny p q", "mid tiny") }},
		{api.ErrOrder, func(p *[]api.Session) { *p = sessions("mid tiny p q", "mid big") }},
		{api.ErrOrder, func(p *[]api.Session) { *p = sessions("mid tiny p q", "am tiny r") }},
		{api.ErrOrder, func(p *[]api.Session) { *p = sessions("mid tiny p q", "pm tiny") }},
		{api.ErrForm, func(p *[]api.Session) { *p = sessions("mid tiny p q", "pm tiny r u q") }},
		{api.ErrTwice, func(p *[]api.Session) { *p = sessions("mid tiny p q", "pm tiny r u") }},
		{api.ErrFull, func(p *[]api.Session) { *p = sessions("am big q", "mid big s", "zz tiny u") }},
		{api.ErrFull, func(p *[]api.Session) { *p = sessions("am big q", "mid big s", "zz tiny t") }},
		{api.ErrConflict, func(p *[]api.Session) { *p = sessions("am big p", "mid tiny r", "pm tiny q") }},
		{api.ErrConflict, func(p *[]api.Session) { *p = sessions("am big p", "pm tiny r q") }},
		{api.ErrState, func(p *[]api.Session) { *p = sessions("am big p q", "pm tiny r t") }},
	})
}

// P8.2: which one of ErrConflict and ErrState comes first, and what is none of them. Of the example, dee cannot speak in am and zz, and bob not in pm.
func TestCheckConflicts(t *testing.T) {
	for _, c := range []struct {
		want api.Errno
		p    []api.Session
	}{
		// Who is banned is named before conflicts of later sessions, and behind those of earlier ones and of their own.
		{api.ErrState, sessions("am big s", "mid big p")},
		{api.ErrConflict, sessions("am big p", "mid big t", "pm big q")},
		{api.ErrConflict, sessions("mid big p", "pm big q")},
		{api.ErrConflict, sessions("mid tiny r", "pm big p q")},
		{api.ErrState, sessions("am big t", "pm big q")},
		// Of a session any talk counts, and of a talk any speaker.
		{api.ErrState, sessions("pm big r q")},
		{api.ErrConflict, sessions("am big p q", "mid tiny r")},
		{api.ErrConflict, sessions("am tiny q p", "mid big r")},
		{api.ErrConflict, sessions("mid big p q", "pm tiny t r")},
		// A ban is of its slot alone.
		{api.OK, sessions("mid big q")},
		{api.OK, sessions("mid big s")},
		// Slots only touch each other.
		{api.OK, sessions("am big p", "pm big r")},
		// Two rooms at one time; two talks of a speaker in one session.
		{api.OK, sessions("am big p", "am tiny t")},
		{api.OK, sessions("am big p r")},
		{api.ErrConflict, sessions("am big p", "am tiny r")},
		// One room in slots that lie across each other.
		{api.ErrConflict, sessions("am big q t", "mid big s")},
		{api.OK, sessions("am big q t", "mid tiny s")},
	} {
		is(t, all(c.p, program.Check(example(), c.p)), all(c.p, c.want))
		is(t, all(c.p, plainCheck(example(), c.p)), all(c.p, c.want))
	}
}

// wrongProgrammes are programmes of the example with each of the errors.
func wrongProgrammes() map[api.Errno][]api.Session {
	return map[api.Errno][]api.Session{
		api.ErrLarge:    make([]api.Session, api.MaxRooms*api.MaxSlots+1),
		api.ErrNone:     sessions("am big x"),
		api.ErrOrder:    sessions("pm big p", "am big q"),
		api.ErrForm:     sessions("am big"),
		api.ErrTwice:    sessions("am big p p"),
		api.ErrFull:     sessions("zz big u"),
		api.ErrConflict: sessions("am big p", "mid big q"),
		api.ErrState:    sessions("pm big q"),
	}
}

// P8.2: Check, compared with a plain version.
func TestCheckPlainly(t *testing.T) {
	d := dice(3)
	count := map[api.Errno]int{}
	for range 20_000 {
		g := d.grid(t, 7, 4, 3)
		p := d.programme(t, g)
		for range d.below(3) {
			p = d.spoil(p)
		}
		want := plainCheck(g, p)
		count[want]++
		is(t, program.Check(g, p), want)
	}
	for _, e := range []api.Errno{api.OK, api.ErrNone, api.ErrOrder, api.ErrForm, api.ErrTwice, api.ErrFull, api.ErrConflict, api.ErrState} {
		if count[e] < 100 {
			t.Error(e, count[e])
		}
	}
}

// spoil does something to a programme that often makes it wrong.
func (d *dice) spoil(p []api.Session) []api.Session {
	p = plainTake(p, "")
	slot, room, paper := d.pick(someSlots), d.pick(someRooms), d.pick(somePapers)
	if len(p) == 0 || d.below(5) == 0 {
		return append(p, api.Session{Slot: slot, Room: room, Papers: []string{paper}})
	}
	s := &p[d.below(len(p))]
	switch d.below(6) {
	case 0:
		return plainPut(p, paper, slot, room, -1)
	case 1:
		s.Papers = append(s.Papers, paper)
	case 2:
		s.Papers = s.Papers[1:]
	case 3:
		s.Slot, s.Room = slot, room
	case 4:
		return plainPut(plainTake(p, paper), paper, slot, room, 0)
	case 5:
		return shuffled(d, p)
	}
	return p
}

// P8.2: Missing.
func TestMissing(t *testing.T) {
	is(t, pack(program.Missing(example(), some())), all([]string{"u"}, api.OK))
	is(t, pack(program.Missing(example(), nil)), all([]string{"p", "q", "r", "s", "t", "u"}, api.OK))
	is(t, pack(program.Missing(example(), sessions("am big r", "pm big u"))), all([]string{"p", "q", "s", "t"}, api.OK))
	is(t, pack(program.Missing(api.Grid{}, nil)), all([]string{}, api.OK))
	is(t, pack(program.Missing(greatest(), spread())), all([]string{}, api.OK))
	d := dice(5)
	for range 300 {
		g := d.grid(t, 7, 4, 3)
		p := d.programme(t, g)
		is(t, pack(program.Missing(g, p)), all(plainMissing(g, p), api.OK))
	}
}

func plainMissing(g api.Grid, p []api.Session) []string {
	var l []string
	for _, x := range g.Talks {
		if _, i := plainWhere(p, x.Paper); i < 0 {
			l = append(l, x.Paper)
		}
	}
	slices.Sort(l)
	return l
}
