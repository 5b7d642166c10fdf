package program_test

import (
	"slices"
	"testing"

	"rebuttal/api"
	"rebuttal/program"
)

// P8.3: what a person hears at best.
func TestAgenda(t *testing.T) {
	p := some()
	for _, c := range []struct {
		person, papers string
		sessions       []api.Session
	}{
		{"w", "p+q", p[:1]},
		{"x", "p+q+r", sessions("am big p q", "pm big r t")},
		{"y", "-", nil},
		// p and t, not s at the time of both.
		{"z", "p+t", sessions("am big p q", "pm big r t")},
	} {
		is(t, all(c.person, pack3(program.Agenda(example(), p, c.person))), all(c.person, all(list(c.papers), c.sessions, api.OK)))
	}
	is(t, pack3(program.Agenda(example(), nil, "x")), all([]string{}, []api.Session{}, api.OK))
	is(t, pack3(program.Agenda(example(), sessions("am big t q", "mid tiny u")[:1], "z")), all([]string{"t"}, sessions("am big t q"), api.OK))
	for _, key := range append(badKeys, "ann", "p", "v", "ww") {
		is(t, pack3(program.Agenda(example(), p, key)), all([]string{}, []api.Session{}, api.ErrNone))
	}
}

// meals is a grid of slots of which i and n are as long as j and k together, m lies across the end of k, and l is far from all.
func meals() api.Grid {
	return api.Grid{
		Rooms:  rooms("a 9", "b 9", "c 9"),
		Slots:  slots("i 10 20", "j 10 10", "k 20 10", "l 50 10", "m 25 10", "n 10 20"),
		Talks:  talks("p 1 a -", "q 1 b -", "r 1 c -", "s 1 d -", "t 1 e -", "u 1 f -"),
		Wishes: wishes("y p q r s", "z p q r s t u"),
	}
}

// P8.3: of several choices that with the fewest sessions, then the least one.
func TestAgendaOfSeveral(t *testing.T) {
	for _, c := range []struct {
		p        []api.Session
		papers   string
		sessions []int
	}{
		// Two papers in i, or one in each of j and k.
		{sessions("i a p q", "j b r", "k b s"), "p+q", []int{0}},
		{sessions("i a p", "j b r", "k b s"), "r+s", []int{1, 2}},
		{sessions("i b p q", "j a r u", "k a s"), "r+s+u", []int{1, 2}},
		{sessions("i a p", "j b s", "k b q r"), "q+r+s", []int{1, 2}},
		// One of i and j, and l.
		{sessions("i a p", "j b r", "l a s"), "p+s", []int{0, 2}},
		{sessions("i a p", "j b r"), "p", []int{0}},
		// One of several at one time.
		{sessions("k a s", "k b p", "m c r"), "s", []int{0}},
		{sessions("k a s", "k b p r", "m c q t"), "p+r", []int{1}},
		{sessions("i a p", "i b q", "l a r", "l b s u"), "p+s+u", []int{0, 3}},
		{sessions("j a p", "k a q", "k b s t", "m c r"), "p+s+t", []int{0, 2}},
		// Fewer sessions come before lesser numbers.
		{sessions("j a p", "k a q", "n b r t"), "r+t", []int{2}},
		{sessions("j a p", "k a q", "l a s", "n b r t"), "r+s+t", []int{2, 3}},
	} {
		var want []api.Session
		for _, i := range c.sessions {
			want = append(want, c.p[i])
		}
		is(t, all(c.p, pack3(program.Agenda(meals(), c.p, "z"))), all(c.p, all(list(c.papers), want, api.OK)))
	}
	// Who wishes less than a session has gets the wished papers, and the whole session.
	is(t, pack3(program.Agenda(meals(), sessions("l a t s u"), "y")), all([]string{"s"}, sessions("l a t s u"), api.OK))
}

// P8.3: Agenda, compared with a plain version.
func TestAgendaPlainly(t *testing.T) {
	d := dice(13)
	for range 600 {
		g := d.grid(t, 7, 4, 3)
		p := d.programme(t, g)
		for _, w := range g.Wishes {
			papers, sessions := plainAgenda(g, p, w)
			is(t, pack3(program.Agenda(g, p, w.Person)), all(papers, sessions, api.OK))
		}
	}
}

// plainAgenda looks at all sets of sessions.
func plainAgenda(g api.Grid, p []api.Session, w api.Wish) ([]string, []api.Session) {
	var best []int
	most := 0
	for set := range 1 << len(p) {
		var chosen []int
		papers, fits := 0, true
		for i, s := range p {
			if set>>i&1 == 0 {
				continue
			}
			for _, j := range chosen {
				fits = fits && !plainOverlap(g, s, p[j])
			}
			chosen = append(chosen, i)
			wished := len(plainWished(s, w))
			fits = fits && wished > 0
			papers += wished
		}
		if !fits {
			continue
		}
		better := papers > most
		if papers == most {
			better = len(chosen) < len(best) || len(chosen) == len(best) && slices.Compare(chosen, best) < 0
		}
		if better {
			best, most = chosen, papers
		}
	}
	var papers []string
	var sessions []api.Session
	for _, i := range best {
		papers = append(papers, plainWished(p[i], w)...)
		sessions = append(sessions, p[i])
	}
	slices.Sort(papers)
	return papers, sessions
}

func plainWished(s api.Session, w api.Wish) []string {
	var l []string
	for _, paper := range s.Papers {
		if slices.Contains(w.Papers, paper) {
			l = append(l, paper)
		}
	}
	return l
}

// P8.3: as many sessions with wished papers as there can be, and one more.
func TestAgendaLarge(t *testing.T) {
	g := api.Grid{Rooms: rooms("a 1", "b 1")}
	var p []api.Session
	for i, key := range keys(16) {
		// Each slot overlaps with the one before and with the one behind.
		g.Slots = append(g.Slots, api.Slot{Key: key, From: 10 * i, Long: 15})
		g.Talks = append(g.Talks, api.Talk{Paper: key, Speakers: []string{key}, Long: 1})
		p = append(p, api.Session{Slot: key, Room: string(rune('a' + i%2)), Papers: []string{key}})
	}
	g.Wishes = []api.Wish{{Person: "x", Papers: keys(15)}, {Person: "y", Papers: keys(14)}}
	is(t, pack3(program.Agenda(g, p, "x")), all([]string{}, []api.Session{}, api.ErrLarge))
	is(t, pack3(program.Agenda(g, p, "y")), all(every(keys(14), 2), every(p[:14], 2), api.OK))
	// Papers in no session do not count.
	is(t, pack3(program.Agenda(g, p[1:], "x")), all(every(keys(15)[1:], 2), every(p[1:15], 2), api.OK))
}

// every are some elements of a list: the first one, and then each one that is so far behind.
func every[T any](l []T, step int) []T {
	var some []T
	for i := 0; i < len(l); i += step {
		some = append(some, l[i])
	}
	return some
}
