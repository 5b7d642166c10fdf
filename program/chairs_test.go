package program_test

import (
	"fmt"
	"slices"
	"testing"

	"rebuttal/api"
	"rebuttal/program"
)

// chaired have a slot, a room and a person.
func chaired(lines ...string) []api.Chaired {
	return made(lines, func(w []string) api.Chaired { return api.Chaired{Slot: w[0], Room: w[1], Person: w[2]} })
}

// P8.5: who can chair what.
func TestChairs(t *testing.T) {
	p := sessions("am big p q", "mid tiny s", "pm big r t")
	for _, c := range []struct {
		p    []api.Session
		l    []api.Chair
		want []api.Chaired
	}{
		{nil, chairs("max art"), nil},
		{p, nil, nil},
		// Without a topic, or with none of theirs.
		{p, chairs("max"), nil},
		{p, chairs("max beer"), nil},
		{sessions("mid tiny s"), chairs("max art"), nil},
		// Any topic of any talk.
		{p, chairs("max art"), chaired("am big max")},
		{p, chairs("max cake"), chaired("am big max")},
		{p, chairs("max beer tea"), chaired("pm big max")},
		{p, chairs("max art cake tea"), chaired("am big max")},
		// Each person once.
		{p, chairs("kim cake", "max art"), chaired("am big kim", "pm big max")},
		{p, chairs("kim art", "max beer"), chaired("am big kim")},
		// A speaker of the session, or of one at its time; pm is not at the time of am, and mid at that of both.
		{p, chairs("ann art"), nil},
		{p, chairs("bob art"), chaired("pm big bob")},
		{p, chairs("cid art"), chaired("am big cid")},
		{p, chairs("dee art"), nil},
		{p, chairs("eve art"), chaired("am big eve")},
		{p, chairs("fay art"), chaired("am big fay")},
		{sessions("am big p", "am tiny q"), chairs("ann art"), nil},
		// A ban from a slot is none from a chair.
		{sessions("pm big t"), chairs("bob art"), chaired("pm big bob")},
	} {
		is(t, all(c.p, c.l, pack(program.Chairs(example(), c.p, c.l))), all(c.p, c.l, all(c.want, api.OK)))
	}
}

// seats is a grid with a session for each string, whose talk has the topics of its letters.
func seats(topics ...string) (api.Grid, []api.Session) {
	g := api.Grid{Rooms: rooms("a 1")}
	var p []api.Session
	for i, key := range keys(len(topics)) {
		g.Slots = append(g.Slots, api.Slot{Key: key, From: 10 * i, Long: 10})
		g.Talks = append(g.Talks, api.Talk{Paper: key, Speakers: []string{"z"}, Topics: letters(topics[i]), Long: 1})
		p = append(p, api.Session{Slot: key, Room: "a", Papers: []string{key}})
	}
	return g, p
}

// letters are keys of one letter each.
func letters(s string) []string {
	var l []string
	for _, r := range s {
		l = append(l, string(r))
	}
	return l
}

// P8.5: as many sessions as possible, and of several choices the least one. The chair with the letter a has the topic a.
func TestChairsInOrder(t *testing.T) {
	for _, c := range []struct {
		topics []string
		chairs string
		want   string // of each session
	}{
		{[]string{"ab", "a"}, "ab", "ba"},
		{[]string{"ab", "ab"}, "ab", "ab"},
		{[]string{"ab", "b"}, "ab", "ab"},
		{[]string{"b", "a"}, "ab", "ba"},
		{[]string{"a", "a", "a"}, "ab", "a--"},
		{[]string{"", "a", "a"}, "a", "-a-"},
		// The second session has none, so that the first one has a.
		{[]string{"ab", "a", "b"}, "ab", "a-b"},
		{[]string{"ab", "a", "a"}, "ab", "ba-"},
		{[]string{"abc", "ab", "a", "c"}, "abc", "ab-c"},
		{[]string{"abc", "ab", "a"}, "abc", "cba"},
		{[]string{"bc", "ab", "ac"}, "abc", "bac"},
		{[]string{"cd", "bc", "ab", "a"}, "abcd", "dcba"},
		{[]string{"abcd", "abcd", "cd", "cd"}, "abcd", "abcd"},
		{[]string{"abcd", "acd", "cd", "cd"}, "abcd", "bacd"},
		// A chair that is free already.
		{[]string{"ac", "b"}, "abc", "ab"},
		{[]string{"c", "abc", "c"}, "abc", "ca-"},
	} {
		g, p := seats(c.topics...)
		var l []api.Chair
		for _, letter := range letters(c.chairs) {
			l = append(l, api.Chair{Person: letter, Topics: []string{letter}})
		}
		var want []api.Chaired
		for i, letter := range letters(c.want) {
			if letter != "-" {
				want = append(want, api.Chaired{Slot: p[i].Slot, Room: "a", Person: letter})
			}
		}
		is(t, all(c, pack(program.Chairs(g, p, l))), all(c, all(want, api.OK)))
	}
}

// P8.5: Chairs, compared with a plain version.
func TestChairsPlainly(t *testing.T) {
	d := dice(23)
	longest := 0
	for range 400 {
		g := d.grid(t, 7, 4, 2)
		p := d.programme(t, g)
		var l []api.Chair
		for _, person := range d.some(append(slices.Clone(somePeople), "gus", "hal"), 2) {
			l = append(l, api.Chair{Person: person, Topics: d.some(someTopics, 2)})
		}
		want := plainChairs(g, p, l)
		longest = max(longest, len(want))
		is(t, pack(program.Chairs(g, p, l)), all(want, api.OK))
	}
	// Many sessions, of which each one can have a few chairs.
	for range 400 {
		var topics []string
		for range 1 + d.below(6) {
			topics = append(topics, "")
			for _, letter := range d.some(letters("abcde"), 2) {
				topics[len(topics)-1] += letter
			}
		}
		g, p := seats(topics...)
		var l []api.Chair
		for _, person := range letters("vwxy")[:d.below(5)] {
			l = append(l, api.Chair{Person: person, Topics: d.some(letters("abcde"), 4)})
		}
		is(t, pack(program.Chairs(g, p, l)), all(plainChairs(g, p, l), api.OK))
	}
	is(t, longest >= 3, true)
}

// plainChairs looks at all choices, the least one first.
func plainChairs(g api.Grid, p []api.Session, l []api.Chair) []api.Chaired {
	var best []api.Chaired
	var choose func(i int, now []api.Chaired)
	choose = func(i int, now []api.Chaired) {
		if i == len(p) {
			if len(now) > len(best) {
				best = slices.Clone(now)
			}
			return
		}
		for _, c := range l {
			taken := slices.ContainsFunc(now, func(x api.Chaired) bool { return x.Person == c.Person })
			if !taken && plainCan(g, p, p[i], c) {
				choose(i+1, append(now, api.Chaired{Slot: p[i].Slot, Room: p[i].Room, Person: c.Person}))
			}
		}
		choose(i+1, now)
	}
	choose(0, nil)
	return best
}

// plainCan reports whether a person can chair a session.
func plainCan(g api.Grid, p []api.Session, s api.Session, c api.Chair) bool {
	for _, other := range p {
		if plainOverlap(g, s, other) && slices.Contains(plainSpeakers(g, other), c.Person) {
			return false
		}
	}
	for _, paper := range s.Papers {
		if talk, _ := plainTalk(g, paper); share(talk.Topics, c.Topics) {
			return true
		}
	}
	return false
}

// P8.5: as many chairs and sessions as there can be.
func TestChairsOfMost(t *testing.T) {
	g, p := greatest(), spread()
	var l []api.Chair
	for i := range api.MaxChairs {
		l = append(l, api.Chair{Person: fmt.Sprintf("z%04d", i), Topics: keys(api.MaxWanted)})
	}
	got, e := program.Chairs(g, p, l)
	is(t, all(len(got), got[0], got[59], e), all(60, chaired("k0000 k0000 z0000")[0], chaired("k0002 k0019 z0059")[0], api.OK))
	// Each session can have two chairs, of a long row.
	for i := range g.Talks {
		g.Talks[i].Topics = []string{fmt.Sprintf("k%04d", i%59), fmt.Sprintf("k%04d", i%59+1)}
	}
	for i := range l {
		l[i].Topics = []string{fmt.Sprintf("k%04d", i)}
	}
	got, e = program.Chairs(g, p, l)
	is(t, all(len(got), got[0], got[58], got[59], e), all(60, chaired("k0000 k0000 z0000")[0], chaired("k0002 k0018 z0058")[0], chaired("k0005 k0017 z0059")[0], api.OK))
	// Two of each have chairs of their own, and the last one alone.
	for i := range l {
		l[i].Topics = keys(60)[i/2*2 : i/2*2+2]
	}
	got, e = program.Chairs(g, p, l)
	is(t, all(len(got), e), all(60, api.OK))
}

// P8.5: the errors of chairs, in order.
func TestChairsErrors(t *testing.T) {
	check := func(l []api.Chair) api.Errno {
		got, e := program.Chairs(example(), some(), l)
		is(t, e == api.OK || len(got) == 0, true)
		return e
	}
	climb(t, make([]api.Chair, api.MaxChairs+1), check, []rung[[]api.Chair]{
		{api.ErrLarge, func(l *[]api.Chair) { *l = chairs("B a A", "A", "b") }},
		{api.ErrName, func(l *[]api.Chair) { *l = chairs("b a A b c d e f g h", "A", "b") }},
		{api.ErrLarge, func(l *[]api.Chair) { *l = chairs("b b A a", "A", "b") }},
		{api.ErrName, func(l *[]api.Chair) { *l = chairs("b b b A", "A", "b") }},
		{api.ErrOrder, func(l *[]api.Chair) { *l = chairs("b b a", "b", "A") }},
		{api.ErrOrder, func(l *[]api.Chair) { *l = chairs("b a b", "b A", "A") }},
		{api.ErrOrder, func(l *[]api.Chair) { *l = chairs("b", "a A", "A") }},
		{api.ErrOrder, func(l *[]api.Chair) { *l = chairs("b", "c", "A") }},
		{api.ErrName, func(l *[]api.Chair) { *l = chairs("b", "c", "d a a") }},
		{api.ErrOrder, func(l *[]api.Chair) { *l = chairs("b", "c", "d a b c d e f g h") }},
	})
	for _, key := range badKeys {
		is(t, check([]api.Chair{{Person: key}}), api.ErrName)
		is(t, check([]api.Chair{{Person: "a", Topics: []string{key}}}), api.ErrName)
	}
}
