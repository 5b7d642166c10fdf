package program_test

import (
	"fmt"
	"slices"
	"strings"
	"testing"

	"rebuttal/api"
	"rebuttal/program"
)

// timed have a paper, a slot, a room, From and To.
func timed(lines ...string) []api.Timed {
	return made(lines, func(w []string) api.Timed {
		return api.Timed{Paper: w[0], Slot: w[1], Room: w[2], From: number(w[3]), To: number(w[4])}
	})
}

// P8.2: when talks are, and those of a person.
func TestTimes(t *testing.T) {
	g := example()
	is(t, pack(program.Times(g, nil)), all([]api.Timed{}, api.OK))
	is(t, pack(program.Times(g, some())), all(timed("p am big 100 120", "q am big 120 140", "s mid tiny 140 180", "r pm big 160 190", "t pm big 190 220"), api.OK))
	is(t, pack(program.Times(g, sessions("am big q p", "am tiny t"))), all(timed("q am big 100 120", "t am tiny 100 130", "p am big 120 140"), api.OK))
	// Sessions whose slots have another order than their times.
	g.Slots[0].From = 300
	is(t, pack(program.Times(g, sessions("am big p", "am tiny t", "mid tiny s", "pm big r"))), all(timed("s mid tiny 140 180", "r pm big 160 190", "p am big 300 320", "t am tiny 300 330"), api.OK))
	for person, want := range map[string][]api.Timed{
		"ann":                            timed("p am big 100 120", "r pm big 160 190"),
		"cid":                            timed("r pm big 160 190"),
		"dee":                            timed("s mid tiny 140 180"),
		"fay":                            nil,
		"zoe":                            nil,
		"p":                              nil,
		strings.Repeat("k", api.MaxName): nil,
	} {
		is(t, all(person, pack(program.Busy(example(), some(), person))), all(person, all(want, api.OK)))
	}
	for _, key := range badKeys {
		is(t, pack(program.Busy(example(), some(), key)), all([]api.Timed{}, api.ErrName))
	}
	// The last minute of all.
	last := api.Grid{Rooms: rooms("a 1"), Slots: slots("i 5761439 1440"), Talks: talks("p 1440 z -")}
	is(t, pack(program.Times(last, sessions("i a p"))), all(timed("p i a 5761439 5762879"), api.OK))
}

// P8.2: Times, Busy and Beside, compared with plain versions.
func TestTimesPlainly(t *testing.T) {
	d := dice(7)
	for range 500 {
		g := d.grid(t, 7, 4, 3)
		p := d.programme(t, g)
		times := plainTimes(g, p)
		is(t, pack(program.Times(g, p)), all(times, api.OK))
		for _, person := range somePeople {
			var busy []api.Timed
			for _, x := range times {
				if talk, _ := plainTalk(g, x.Paper); slices.Contains(talk.Speakers, person) {
					busy = append(busy, x)
				}
			}
			is(t, pack(program.Busy(g, p, person)), all(busy, api.OK))
		}
		for _, paper := range somePapers {
			beside, e := plainBeside(g, p, paper)
			is(t, pack(program.Beside(g, p, paper)), all(beside, e))
		}
	}
}

func plainTimes(g api.Grid, p []api.Session) []api.Timed {
	var l []api.Timed
	for _, s := range p {
		slot, _ := plainSlot(g, s.Slot)
		for i, paper := range s.Papers {
			x := api.Timed{Paper: paper, Slot: s.Slot, Room: s.Room, From: slot.From}
			for _, before := range s.Papers[:i] {
				talk, _ := plainTalk(g, before)
				x.From += talk.Long
			}
			talk, _ := plainTalk(g, paper)
			x.To = x.From + talk.Long
			l = append(l, x)
		}
	}
	sorted := func(x api.Timed) string { return fmt.Sprintf("%09d %s %s", x.From, x.Room, x.Paper) }
	slices.SortFunc(l, func(a, b api.Timed) int { return strings.Compare(sorted(a), sorted(b)) })
	return l
}

func plainBeside(g api.Grid, p []api.Session, paper string) ([]string, api.Errno) {
	own, i := plainWhere(p, paper)
	if i < 0 {
		return nil, api.ErrNone
	}
	var l []string
	for _, s := range p {
		if (s.Slot != own.Slot || s.Room != own.Room) && plainOverlap(g, s, own) {
			l = append(l, s.Papers...)
		}
	}
	slices.Sort(l)
	return l, api.OK
}

// P8.2: what is at the time of a paper.
func TestBeside(t *testing.T) {
	p := sessions("am big q p", "am tiny t", "mid tiny s", "zz tiny r")
	for _, c := range []struct {
		paper string
		p     []api.Session
		want  string
	}{
		{"p", some(), "s"},
		{"s", some(), "p+q+r+t"},
		{"t", some(), "s"},
		{"t", p[:2], "p+q"},
		{"q", p[:2], "t"},
		{"r", p[3:], "-"},
		{"p", sessions("am big p", "pm big t"), "-"},
	} {
		is(t, all(c.paper, pack(program.Beside(example(), c.p, c.paper))), all(c.paper, all(list(c.want), api.OK)))
	}
	for _, key := range append(badKeys, "u", "x", "ann", "am") {
		is(t, pack(program.Beside(example(), some(), key)), all([]string{}, api.ErrNone))
	}
}
