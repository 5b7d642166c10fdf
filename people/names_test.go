package people_test

import (
	"math"
	"slices"
	"testing"

	"rebuttal/api"
	"rebuttal/people"
)

// P1.3: NameOn.
func TestNameOn(t *testing.T) {
	w := read(t, "person ann\nname 0 A\nname 5 B\nname 9 C\n")
	for day, want := range map[int]string{0: "A", 4: "A", 5: "B", 8: "B", 9: "C", api.MaxDay: "C"} {
		s, e := people.NameOn(w, "ann", day)
		is(t, all(day, s, e), all(day, want, api.OK))
	}
	for _, day := range []int{-1, api.MaxDay + 1, math.MinInt, math.MaxInt} {
		s, e := people.NameOn(w, "ann", day)
		is(t, all(s, e), all("", api.ErrArg))
	}
	s, e := people.NameOn(w, "bob", -1)
	is(t, all(s, e), all("", api.ErrNone))
	s, e = people.NameOn(api.World{People: []api.Person{{}}}, "bob", -1)
	is(t, all(s, e), all("", api.ErrName))
}

// P1.3: HomesOn.
func TestHomesOn(t *testing.T) {
	w := read(t, "place a -\nplace b -\nplace c -\nperson ann\nname 0 A\n"+
		"home c 0 10\nhome a 2 5\nhome a 2 8\nhome b 4 6\nhome c 7 4001\n")
	for day, want := range map[int][]string{
		0: {"c"}, 1: {"c"}, 2: {"a", "c"}, 4: {"a", "b", "c"}, 5: {"a", "b", "c"}, 6: {"a", "c"}, 7: {"a", "c"}, 8: {"c"}, 10: {"c"}, api.MaxDay: {"c"},
	} {
		l, e := people.HomesOn(w, "ann", day)
		is(t, all(day, l, e), all(day, want, api.OK))
	}
	w = read(t, small)
	l, e := people.HomesOn(w, "ann", 100)
	is(t, all(l, e), all([]string{}, api.OK))
	l, e = people.HomesOn(w, "ann", 4001)
	is(t, all(l, e), all([]string{}, api.ErrArg))
	l, e = people.HomesOn(w, "x", 4001)
	is(t, all(l, e), all([]string{}, api.ErrNone))
	l, e = people.HomesOn(api.World{People: []api.Person{{}}}, "x", 0)
	is(t, all(l, e), all([]string{}, api.ErrName))
}

// P1.3: Simple, of any string.
func TestSimple(t *testing.T) {
	for name, want := range map[string]string{
		"":                  "",
		"  ":                "",
		" . , ":             "",
		"Ann":               "ann",
		"Ann Lee":           "ann lee",
		"Lee, Ann B.":       "lee ann b",
		" A . B ":           "a b",
		"A.B.C":             "abc",
		"A,.,B":             "ab",
		"a   b":             "a b",
		"AZaz@[`{09":        "azaz@[`{09",
		"ÄÖ É":              "ÄÖ É",
		"A\tB\n":            "a\tb\n",
		"\xffA \x80 . \x00": "\xffa \x80 \x00",
		"O'Neil-Roe; Jr":    "o'neil-roe; jr",
	} {
		is(t, all(name, people.Simple(name)), all(name, want))
		is(t, people.Simple(want), want)
	}
}

// P1.3: Find.
func TestFind(t *testing.T) {
	w := read(t, "person ann\nname 0 A. B\nname 3 C\nperson bob\nname 0 X\nname 9 a b\nperson cid\nname 0 AB\nperson dan\nname 0 .\n")
	for name, want := range map[string][]string{
		"A B": {"ann", "bob"}, "a,  b. ": {"ann", "bob"}, "A.B": {"cid"}, "c": {"ann"}, "x": {"bob"}, "y": {}, "": {"dan"}, ", ": {"dan"}, "\xff": {},
	} {
		l, e := people.Find(w, name)
		is(t, all(name, l, e), all(name, want, api.OK))
	}
	l, e := people.Find(api.World{People: []api.Person{{}}}, "A")
	is(t, all(l, e), all([]string{}, api.ErrName))
}

// P1.3: Doubles.
func TestDoubles(t *testing.T) {
	w := read(t, "person ann\nname 0 A\nname 1 B\nmail a@x\nmail c@x\n"+
		"person bob\nname 0 C\nname 1 D\nmail b@x\nmail c@x\n"+
		"person cid\nname 0 D.\nname 2 b\n"+
		"person dan\nname 0 E\nname 2 e\nmail d@x\n"+
		"person eve\nname 0 F\nmail d@x\nmail z@x\n")
	l, e := people.Doubles(w)
	is(t, all(l, e), all([]api.Bond{{A: "ann", B: "bob"}, {A: "ann", B: "cid"}, {A: "bob", B: "cid"}, {A: "dan", B: "eve"}}, api.OK))
	l, e = people.Doubles(api.World{})
	is(t, all(l, e), all([]api.Bond{}, api.OK))
	l, e = people.Doubles(api.World{People: []api.Person{{}}})
	is(t, all(l, e), all([]api.Bond{}, api.ErrName))
}

// P1.3: Doubles as the document says it, pair by pair.
func TestDoublesPlainly(t *testing.T) {
	d := dice(7)
	for range 200 {
		w := d.world(t)
		want := []api.Bond{}
		for i, a := range w.People {
			for _, b := range w.People[i+1:] {
				if alike(a, b) {
					want = append(want, api.Bond{A: a.Key, B: b.Key})
				}
			}
		}
		l, e := people.Doubles(w)
		is(t, all(l, e), all(want, api.OK))
	}
}

func alike(a, b api.Person) bool {
	for _, m := range a.Mails {
		if slices.Contains(b.Mails, m) {
			return true
		}
	}
	for _, x := range a.Names {
		for _, y := range b.Names {
			if people.Simple(x.Name) == people.Simple(y.Name) {
				return true
			}
		}
	}
	return false
}
