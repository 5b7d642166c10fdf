package program_test

import (
	"fmt"
	"slices"
	"strings"
	"testing"

	"rebuttal/api"
	"rebuttal/program"
)

// clashes have two papers and how many persons.
func clashes(lines ...string) []api.Clash {
	return made(lines, func(w []string) api.Clash { return api.Clash{A: w[0], B: w[1], Many: number(w[2])} })
}

// crowds have a slot, a room, People and Over.
func crowds(lines ...string) []api.Crowd {
	return made(lines, func(w []string) api.Crowd {
		return api.Crowd{Slot: w[0], Room: w[1], People: number(w[2]), Over: number(w[3])}
	})
}

// P8.3: Clashes, Mixed, Crowd and Cost.
func TestCost(t *testing.T) {
	for _, c := range []struct {
		p       []api.Session
		clashes []api.Clash
		mixed   int
		crowd   []api.Crowd
		cost    int
	}{
		{nil, nil, 0, nil, 6_000},
		// am and pm only touch each other.
		{sessions("am big p q", "pm big r"), nil, 0, crowds("am big 3 0", "pm big 1 0"), 3_000},
		{sessions("am big p", "am tiny q"), clashes("p q 2"), 0, crowds("am big 3 0", "am tiny 2 1"), 4_201},
		// Nobody wishes both q and s; s has no topics.
		{sessions("am big p q", "mid tiny s", "pm big r t"), clashes("p s 1", "s t 1"), 1, crowds("am big 3 0", "mid tiny 1 0", "pm big 2 0"), 1_210},
		{sessions("am tiny p r", "mid big q"), clashes("p q 2", "q r 1"), 1, crowds("am tiny 3 2", "mid big 2 0"), 3_312},
		{sessions("am big p", "mid tiny s", "zz tiny t"), clashes("p s 1"), 0, crowds("am big 3 0", "mid tiny 1 0", "zz tiny 1 0"), 3_100},
		{sessions("am tiny p"), nil, 0, crowds("am tiny 3 2"), 5_002},
		// A greater paper in an earlier session.
		{sessions("am big t", "mid tiny p"), clashes("p t 1"), 0, crowds("am big 1 0", "mid tiny 3 2"), 4_102},
	} {
		is(t, all(c.p, pack(program.Clashes(example(), c.p))), all(c.p, all(c.clashes, api.OK)))
		is(t, all(c.p, pack(program.Mixed(example(), c.p))), all(c.p, all(c.mixed, api.OK)))
		is(t, all(c.p, pack(program.Crowd(example(), c.p))), all(c.p, all(c.crowd, api.OK)))
		is(t, all(c.p, pack(program.Cost(example(), c.p))), all(c.p, all(c.cost, api.OK)))
	}
}

// P8.3: Clashes by how many persons, then by A, then by B.
func TestClashesInOrder(t *testing.T) {
	g := api.Grid{
		Rooms:  rooms("a 9", "b 9", "c 9"),
		Slots:  slots("i 0 9"),
		Talks:  talks("p 1 a -", "q 1 b -", "r 1 c -", "s 1 d -"),
		Wishes: wishes("v p q r s", "w p s", "x q r", "y q r", "z p q"),
	}
	is(t, pack(program.Clashes(g, sessions("i a r s", "i b q", "i c p"))), all(clashes("q r 3", "p q 2", "p s 2", "p r 1", "q s 1"), api.OK))
}

// P8.3: two talks of a session are mixed unless they have a topic in common.
func TestMixed(t *testing.T) {
	g := api.Grid{
		Rooms: rooms("a 9", "b 9"),
		Slots: slots("i 0 9"),
		Talks: talks("p 1 a art+cake", "q 1 b cake+tea", "r 1 c tea", "s 1 d -", "t 1 e -", "u 1 f art+tea"),
	}
	for papers, want := range map[string]int{"p": 0, "s": 0, "p q": 0, "p r": 1, "q r": 0, "r u": 0, "p s": 1, "s t": 1, "p q r": 1, "p q r s t u": 10} {
		is(t, all(papers, pack(program.Mixed(g, sessions("i a "+papers)))), all(papers, all(want, api.OK)))
	}
	is(t, pack(program.Mixed(g, sessions("i a r p", "i b t s"))), all(2, api.OK))
}

// P8.3: the greatest sums.
func TestCostOfMost(t *testing.T) {
	g, p := greatest(), spread()
	const pairs = 10 * 20 * 19 / 2
	is(t, pack(program.Cost(g, p)), all(100*pairs*api.MaxWishes+200*(api.MaxWishes-1), api.OK))
	l, e := program.Clashes(g, p)
	is(t, all(len(l), l[0], l[pairs-1], e), all(pairs, clashes("k0000 k0001 500")[0], clashes("k0198 k0199 500")[0], api.OK))
	one := []api.Session{{Slot: "k0000", Room: "k0000", Papers: keys(api.MaxTalks)}}
	is(t, pack(program.Crowd(g, one)), all(crowds("k0000 k0000 500 499"), api.OK))
	for i := range g.Talks {
		g.Talks[i].Topics = nil
	}
	is(t, pack(program.Cost(g, one)), all(10*200*199/2+499, api.OK))
}

// P8.3: all four functions, compared with plain versions.
func TestCostPlainly(t *testing.T) {
	d := dice(11)
	for range 1000 {
		g := d.grid(t, 7, 4, 3)
		p := d.programme(t, g)
		is(t, pack(program.Clashes(g, p)), all(plainClashes(g, p), api.OK))
		is(t, pack(program.Mixed(g, p)), all(plainMixed(g, p), api.OK))
		is(t, pack(program.Crowd(g, p)), all(plainCrowd(g, p), api.OK))
		is(t, pack(program.Cost(g, p)), all(plainCost(g, p), api.OK))
	}
}

func plainClashes(g api.Grid, p []api.Session) []api.Clash {
	var l []api.Clash
	for _, x := range g.Talks {
		for _, y := range g.Talks {
			s, i := plainWhere(p, x.Paper)
			o, j := plainWhere(p, y.Paper)
			if x.Paper >= y.Paper || i < 0 || j < 0 || show(s) == show(o) || !plainOverlap(g, s, o) {
				continue
			}
			many := 0
			for _, w := range g.Wishes {
				if slices.Contains(w.Papers, x.Paper) && slices.Contains(w.Papers, y.Paper) {
					many++
				}
			}
			if many > 0 {
				l = append(l, api.Clash{A: x.Paper, B: y.Paper, Many: many})
			}
		}
	}
	sorted := func(x api.Clash) string { return fmt.Sprintf("%03d %s %s", 999-x.Many, x.A, x.B) }
	slices.SortFunc(l, func(a, b api.Clash) int { return strings.Compare(sorted(a), sorted(b)) })
	return l
}

func plainMixed(g api.Grid, p []api.Session) int {
	mixed := 0
	for _, s := range p {
		for i, a := range s.Papers {
			for _, b := range s.Papers[i+1:] {
				x, _ := plainTalk(g, a)
				y, _ := plainTalk(g, b)
				if !share(x.Topics, y.Topics) {
					mixed++
				}
			}
		}
	}
	return mixed
}

func plainCrowd(g api.Grid, p []api.Session) []api.Crowd {
	var l []api.Crowd
	for _, s := range p {
		c := api.Crowd{Slot: s.Slot, Room: s.Room}
		for _, w := range g.Wishes {
			if share(w.Papers, s.Papers) {
				c.People++
			}
		}
		if room, _ := plainRoom(g, s.Room); c.People > room.Seats {
			c.Over = c.People - room.Seats
		}
		l = append(l, c)
	}
	return l
}

func plainCost(g api.Grid, p []api.Session) int {
	cost := 1_000*len(plainMissing(g, p)) + 10*plainMixed(g, p)
	for _, c := range plainClashes(g, p) {
		cost += 100 * c.Many
	}
	for _, c := range plainCrowd(g, p) {
		cost += c.Over
	}
	return cost
}
