package people_test

import (
	"fmt"
	"math"
	"slices"
	"testing"

	"rebuttal/api"
	"rebuttal/people"
)

func whys(t *testing.T, w api.World, terms api.Terms, a, b string, day int) []int {
	t.Helper()
	l, e := people.Why(w, terms, a, b, day)
	is(t, e, api.OK)
	return l
}

// isWhy asks from both sides.
func isWhy(t *testing.T, w api.World, terms api.Terms, a, b string, day int, want ...int) {
	t.Helper()
	is(t, all(a, b, day, whys(t, w, terms, a, b, day)), all(a, b, day, want))
	is(t, all(b, a, day, whys(t, w, terms, b, a, day)), all(b, a, day, want))
}

// P1.4: the example of the document.
func TestWhyExample(t *testing.T) {
	w := read(t, small)
	terms := api.Terms{Home: 30}
	for day := range api.MaxDay + 1 {
		want := []int{}
		if day >= 50 && day <= 129 {
			want = []int{api.WhyHome}
		}
		isWhy(t, w, terms, "ann", "bob", day, want...)
	}
}

// P1.4: self, advisers and bonds hold on all days, for both sides.
func TestWhyLasting(t *testing.T) {
	w := read(t, "person ann\nname 0 A\nadviser cid\nperson bob\nname 0 B\nperson cid\nname 0 C\nperson dan\nname 0 D\nbond ann dan\nbond bob dan\nbond cid dan\n")
	for _, day := range []int{0, 1, api.MaxDay} {
		isWhy(t, w, api.Terms{}, "ann", "ann", day, api.WhySelf)
		isWhy(t, w, api.Terms{}, "ann", "bob", day)
		isWhy(t, w, api.Terms{}, "ann", "cid", day, api.WhyAdviser)
		isWhy(t, w, api.Terms{}, "bob", "cid", day)
		isWhy(t, w, api.Terms{}, "ann", "dan", day, api.WhyBond)
		isWhy(t, w, api.Terms{}, "bob", "dan", day, api.WhyBond)
	}
}

// P1.4: homes: which places, and which days.
func TestWhyHome(t *testing.T) {
	w := read(t, "place a c\nplace b c\nplace c d\nplace d -\nplace e -\n"+
		"person ann\nname 0 A\nhome a 10 20\n"+
		"person bob\nname 0 B\nhome b 10 20\n"+
		"person cid\nname 0 C\nhome d 15 17\nhome d 20 30\n"+
		"person dan\nname 0 D\nhome e 0 4001\n"+
		"person eve\nname 0 E\n")
	terms := api.Terms{Home: 3}
	for day := range 40 {
		together := day >= 15 && day <= 16+3
		want := []int{}
		if together {
			want = []int{api.WhyHome}
		}
		isWhy(t, w, terms, "ann", "cid", day, want...)
		isWhy(t, w, terms, "bob", "cid", day, want...)
		isWhy(t, w, terms, "ann", "bob", day)
		isWhy(t, w, terms, "ann", "dan", day)
		isWhy(t, w, terms, "dan", "eve", day)
		self := []int{api.WhySelf}
		if day >= 10 && day <= 19+3 {
			self = append(self, api.WhyHome)
		}
		isWhy(t, w, terms, "ann", "ann", day, self...)
	}
	isWhy(t, w, terms, "eve", "eve", 0, api.WhySelf)
	isWhy(t, w, api.Terms{Home: api.MaxDay}, "ann", "cid", api.MaxDay, api.WhyHome)
	isWhy(t, w, api.Terms{Work: api.MaxDay}, "ann", "cid", 17)
	isWhy(t, w, api.Terms{Home: 0}, "ann", "cid", 16, api.WhyHome)
}

// P1.4: works.
func TestWhyWork(t *testing.T) {
	w := read(t, "person ann\nname 0 A\nperson bob\nname 0 B\nperson cid\nname 0 C\nwork 10 ann bob\nwork 12 ann cid\nwork 20 ann bob\n")
	for day := range 30 {
		want := []int{}
		if day >= 10 && day <= 15 || day >= 20 && day <= 25 {
			want = append(want, api.WhyWork)
		}
		isWhy(t, w, api.Terms{Work: 5}, "ann", "bob", day, want...)
		isWhy(t, w, api.Terms{Work: api.MaxDay}, "bob", "cid", day)
		self := []int{api.WhySelf}
		if day >= 10 && day <= 17 || day >= 20 && day <= 25 {
			self = append(self, api.WhyWork)
		}
		isWhy(t, w, api.Terms{Work: 5}, "ann", "ann", day, self...)
	}
	isWhy(t, w, api.Terms{Work: 0}, "ann", "bob", 10, api.WhyWork)
	isWhy(t, w, api.Terms{Home: api.MaxDay}, "ann", "bob", 11)
}

// P1.4: all reasons at once, rising.
func TestWhyAll(t *testing.T) {
	w := read(t, "place a -\nperson ann\nname 0 A\nhome a 0 9\nadviser bob\nperson bob\nname 0 B\nhome a 0 9\nadviser ann\nwork 3 ann bob\nbond ann bob\n")
	isWhy(t, w, api.Terms{}, "ann", "bob", 3, api.WhyAdviser, api.WhyHome, api.WhyWork, api.WhyBond)
	isWhy(t, w, api.Terms{}, "ann", "ann", 3, api.WhySelf, api.WhyHome, api.WhyWork)
}

// P1.4: errors of Why and Until.
func TestWhyErrors(t *testing.T) {
	w := read(t, small)
	bad := api.World{People: []api.Person{{}}}
	for i, c := range []struct {
		w     api.World
		terms api.Terms
		a, b  string
		day   int
		want  api.Errno
	}{
		{bad, api.Terms{Home: -1}, "x", "x", -1, api.ErrName},
		{w, api.Terms{Home: -1}, "x", "x", -1, api.ErrArg},
		{w, api.Terms{Work: 4001}, "ann", "bob", 0, api.ErrArg},
		{w, api.Terms{}, "x", "bob", -1, api.ErrNone},
		{w, api.Terms{}, "ann", "x", -1, api.ErrNone},
		{w, api.Terms{}, "", "", 0, api.ErrNone},
		{w, api.Terms{}, "ann", "bob", -1, api.ErrArg},
		{w, api.Terms{}, "ann", "bob", api.MaxDay + 1, api.ErrArg},
		{w, api.Terms{}, "ann", "bob", math.MinInt, api.ErrArg},
		{w, api.Terms{}, "ann", "bob", math.MaxInt, api.ErrArg},
	} {
		l, e := people.Why(c.w, c.terms, c.a, c.b, c.day)
		is(t, all(i, l, e), all(i, []int{}, c.want))
		n, e := people.Until(c.w, c.terms, c.a, c.b, c.day)
		is(t, all(i, n, e), all(i, 0, c.want))
	}
}

// P1.4: Until.
func TestUntil(t *testing.T) {
	w := read(t, "place a -\nperson ann\nname 0 A\nhome a 10 20\nhome a 30 4001\nperson bob\nname 0 B\nhome a 0 15\nhome a 40 45\n"+
		"person cid\nname 0 C\nhome a 3995 4001\nperson dan\nname 0 D\nadviser ann\nwork 17 ann bob\nwork 47 ann bob\nwork 55 ann bob\n")
	terms := api.Terms{Home: 3, Work: 2}
	for day, want := range map[int]int{0: 0, 9: 9, 10: 20, 17: 20, 19: 20, 20: 20, 39: 39, 40: 50, 47: 50, 49: 50, 50: 50, 54: 54, 55: 58, 57: 58, 58: 58, api.MaxDay: api.MaxDay} {
		n, e := people.Until(w, terms, "ann", "bob", day)
		is(t, all(day, n, e), all(day, want, api.OK))
		n, e = people.Until(w, terms, "bob", "ann", day)
		is(t, all(day, n, e), all(day, want, api.OK))
	}
	n, e := people.Until(w, terms, "ann", "cid", 3994)
	is(t, all(n, e), all(3994, api.OK))
	for _, c := range [][2]string{{"ann", "cid"}, {"ann", "dan"}, {"dan", "ann"}, {"ann", "ann"}} {
		n, e = people.Until(w, terms, c[0], c[1], 3995)
		is(t, all(n, e), all(0, api.ErrNone))
	}
}

// P1.5: Partners.
func TestPartners(t *testing.T) {
	w := read(t, "person ann\nname 0 A\nperson bob\nname 0 B\nperson cid\nname 0 C\nperson dan\nname 0 D\n"+
		"work 5 ann bob dan\nwork 10 bob cid\nwork 10 bob dan\nwork 20 ann cid\n")
	for _, c := range []struct {
		key       string
		day, days int
		want      []string
	}{
		{"ann", 4, 4, nil}, {"ann", 5, 0, []string{"bob", "dan"}}, {"ann", 19, 14, []string{"bob", "dan"}}, {"ann", 19, 13, nil},
		{"ann", 20, 15, []string{"bob", "cid", "dan"}}, {"ann", 20, 14, []string{"cid"}}, {"bob", 10, 0, []string{"cid", "dan"}},
		{"bob", api.MaxDay, api.MaxDay, []string{"ann", "cid", "dan"}}, {"dan", 9, 9, []string{"ann", "bob"}}, {"ann", 0, api.MaxDay, nil},
	} {
		l, e := people.Partners(w, c.key, c.day, c.days)
		is(t, all(c.key, c.day, c.days, l, e), all(c.key, c.day, c.days, c.want, api.OK))
	}
	for _, c := range []struct {
		w         api.World
		key       string
		day, days int
		want      api.Errno
	}{
		{api.World{People: []api.Person{{}}}, "x", -1, -1, api.ErrName}, {w, "x", -1, -1, api.ErrNone}, {w, "ann", -1, 0, api.ErrArg}, {w, "ann", 4001, 0, api.ErrArg},
		{w, "ann", 9, -1, api.ErrArg}, {w, "ann", 9, 4001, api.ErrArg}, {w, "ann", 9, math.MinInt, api.ErrArg}, {w, "ann", 9, math.MaxInt, api.ErrArg},
	} {
		l, e := people.Partners(c.w, c.key, c.day, c.days)
		is(t, all(l, e), all([]string{}, c.want))
	}
}

func paper(id string, authors ...string) api.Paper {
	return api.Paper{Id: id, Track: "main", Title: "A title", Authors: authors}
}

// P1.5: Causes, Barred and Free of a small world.
func TestCauses(t *testing.T) {
	w := read(t, small)
	terms := api.Terms{Home: 30, Work: 10}
	l, e := people.Causes(w, terms, "cid", paper("p", "dan", "cid", "bob", "ann"), 35)
	is(t, all(l, e), all([]api.Cause{{Author: "cid", Why: api.WhySelf}, {Author: "cid", Why: api.WhyWork}, {Author: "bob", Why: api.WhyAdviser}, {Author: "bob", Why: api.WhyBond}, {Author: "ann", Why: api.WhyWork}}, api.OK))
	l, e = people.Causes(w, terms, "dan", paper("p", "cid", "bob", "ann"), 35)
	is(t, all(l, e), all([]api.Cause{}, api.OK))
	papers := []api.Paper{paper("p", "ann"), paper("q", "dan", "ann"), paper("r", "dan")}
	b, e := people.Barred(w, terms, papers, 55)
	is(t, all(b, e), all([]api.Pair{{Paper: "p", Person: "ann"}, {Paper: "p", Person: "bob"}, {Paper: "q", Person: "ann"}, {Paper: "q", Person: "bob"}, {Paper: "q", Person: "dan"}, {Paper: "r", Person: "dan"}}, api.OK))
	f, e := people.Free(w, terms, papers[1], 55)
	is(t, all(f, e), all([]string{"cid"}, api.OK))
	b, e = people.Barred(w, terms, nil, 55)
	is(t, all(b, e), all([]api.Pair{}, api.OK))
	w.Bonds = append(w.Bonds, api.Bond{A: "cid", B: "dan"})
	f, e = people.Free(w, terms, papers[1], 55)
	is(t, all(f, e), all([]string{}, api.OK))
}

// P1.5: errors of Causes, Barred and Free.
func TestCausesErrors(t *testing.T) {
	w := read(t, small)
	for i, c := range []struct {
		w      api.World
		terms  api.Terms
		person string
		p      api.Paper
		day    int
		want   api.Errno
	}{
		{api.World{People: []api.Person{{}}}, api.Terms{Home: -1}, "ann", api.Paper{Id: "p", Track: "t"}, -1, api.ErrName},
		{w, api.Terms{Home: -1}, "x", paper("p"), -1, api.ErrForm},
		{w, api.Terms{Home: -1}, "ann", paper("p", "x"), -1, api.ErrNone},
		{w, api.Terms{Home: -1}, "x", paper("p", "ann"), -1, api.ErrArg},
		{w, api.Terms{}, "ann", paper("p", "ann"), -1, api.ErrArg},
		{w, api.Terms{}, "ann", paper("p", "ann"), 4001, api.ErrArg},
	} {
		l, e := people.Causes(c.w, c.terms, c.person, c.p, c.day)
		is(t, all(i, l, e), all(i, []api.Cause{}, c.want))
		b, e := people.Barred(c.w, c.terms, []api.Paper{paper("a", "ann"), c.p}, c.day)
		is(t, all(i, b, e), all(i, []api.Pair{}, c.want))
		f, e := people.Free(c.w, c.terms, c.p, c.day)
		is(t, all(i, f, e), all(i, []string{}, c.want))
	}
	l, e := people.Causes(w, api.Terms{}, "x", paper("p", "ann"), -1)
	is(t, all(l, e), all([]api.Cause{}, api.ErrNone))
	b, e := people.Barred(w, api.Terms{}, []api.Paper{paper("p", "ann"), paper("p", "ann")}, 0)
	is(t, all(b, e), all([]api.Pair{}, api.ErrOrder))
	b, e = people.Barred(w, api.Terms{Work: -1}, nil, 0)
	is(t, all(b, e), all([]api.Pair{}, api.ErrArg))
	b, e = people.Barred(w, api.Terms{}, nil, -1)
	is(t, all(b, e), all([]api.Pair{}, api.ErrArg))
}

// P1.5: Near.
func TestNear(t *testing.T) {
	w := read(t, "person a\nname 0 A\nperson b\nname 0 B\nperson c\nname 0 C\nperson d\nname 0 D\nperson e\nname 0 E\nperson f\nname 0 F\n"+
		"work 10 b d\nbond a b\nbond a c\nbond c d\nbond d e\n")
	terms := api.Terms{Work: 5}
	for _, c := range []struct {
		key        string
		day, steps int
		want       []string
	}{
		{"a", 0, 0, nil}, {"a", 0, 1, []string{"b", "c"}}, {"a", 0, 2, []string{"b", "c", "d"}}, {"a", 0, 3, []string{"b", "c", "d", "e"}}, {"a", 0, api.MaxPeople, []string{"b", "c", "d", "e"}},
		{"b", 0, 2, []string{"a", "c"}}, {"b", 10, 2, []string{"a", "c", "d", "e"}}, {"b", 16, 2, []string{"a", "c"}}, {"f", 0, 300, nil}, {"e", 0, 4, []string{"a", "b", "c", "d"}},
	} {
		l, e := people.Near(w, terms, c.key, c.day, c.steps)
		is(t, all(c.key, c.day, c.steps, l, e), all(c.key, c.day, c.steps, c.want, api.OK))
	}
	for _, c := range []struct {
		w          api.World
		terms      api.Terms
		key        string
		day, steps int
		want       api.Errno
	}{
		{api.World{People: []api.Person{{}}}, api.Terms{Home: -1}, "x", -1, -1, api.ErrName}, {w, api.Terms{Home: -1}, "x", -1, -1, api.ErrArg},
		{w, terms, "x", -1, -1, api.ErrNone}, {w, terms, "a", -1, 0, api.ErrArg}, {w, terms, "a", 4001, 0, api.ErrArg},
		{w, terms, "a", 0, -1, api.ErrArg}, {w, terms, "a", 0, api.MaxPeople + 1, api.ErrArg}, {w, terms, "a", 0, math.MaxInt, api.ErrArg},
	} {
		l, e := people.Near(c.w, c.terms, c.key, c.day, c.steps)
		is(t, all(l, e), all([]string{}, c.want))
	}
}

// plainly are the reasons as the document says them, day by day.
func plainly(t *testing.T, w api.World, terms api.Terms, a, b api.Person, day int) []int {
	t.Helper()
	l := []int{}
	if a.Key == b.Key {
		l = append(l, api.WhySelf)
	}
	if slices.Contains(a.Advisers, b.Key) || slices.Contains(b.Advisers, a.Key) {
		l = append(l, api.WhyAdviser)
	}
	if livedPlainly(t, w, terms, a, b, day) {
		l = append(l, api.WhyHome)
	}
	for _, k := range w.Works {
		if slices.Contains(k.Authors, a.Key) && slices.Contains(k.Authors, b.Key) && k.Day <= day && k.Day+terms.Work >= day {
			l = append(l, api.WhyWork)
			break
		}
	}
	if slices.Contains(w.Bonds, api.Bond{A: a.Key, B: b.Key}) || slices.Contains(w.Bonds, api.Bond{A: b.Key, B: a.Key}) {
		l = append(l, api.WhyBond)
	}
	return l
}

func livedPlainly(t *testing.T, w api.World, terms api.Terms, a, b api.Person, day int) bool {
	t.Helper()
	for _, x := range a.Homes {
		for _, y := range b.Homes {
			one, _ := people.Inside(w.Places, x.Place, y.Place)
			other, _ := people.Inside(w.Places, y.Place, x.Place)
			for d := day - terms.Home; d <= day; d++ {
				if (one || other) && x.From <= d && d < x.To && y.From <= d && d < y.To {
					return true
				}
			}
		}
	}
	return false
}

// P1.4 and P1.5: all of them against plain ways, in worlds with much in common.
func TestConflictsPlainly(t *testing.T) {
	d := dice(3)
	for range 60 {
		w := d.world(t)
		terms := api.Terms{Home: d.below(10), Work: d.below(10)}
		day := d.below(70)
		against := map[[2]string]bool{}
		for _, a := range w.People {
			for _, b := range w.People {
				want := plainly(t, w, terms, a, b, day)
				against[[2]string{a.Key, b.Key}] = len(want) > 0
				isWhy(t, w, terms, a.Key, b.Key, day, want...)
				untilPlainly(t, w, terms, a, b, day)
			}
		}
		papersPlainly(t, w, terms, day, d.papers(keysOf(w.People)), against)
		nearPlainly(t, w, terms, day, against)
	}
}

func (d *dice) papers(keys []string) []api.Paper {
	var l []api.Paper
	for i := range d.below(4) {
		p := paper(fmt.Sprintf("p%d", i), d.some(keys, 3)...)
		if len(p.Authors) == 0 {
			p.Authors = []string{d.pick(keys)}
		}
		if d.below(2) == 0 {
			slices.Reverse(p.Authors)
		}
		l = append(l, p)
	}
	return l
}

func untilPlainly(t *testing.T, w api.World, terms api.Terms, a, b api.Person, day int) {
	t.Helper()
	n, e := people.Until(w, terms, a.Key, b.Key, day)
	for x := day; x < 100; x++ {
		if len(plainly(t, w, terms, a, b, x)) == 0 {
			is(t, all(n, e), all(x, api.OK))
			return
		}
	}
	is(t, all(n, e), all(0, api.ErrNone))
}

func papersPlainly(t *testing.T, w api.World, terms api.Terms, day int, l []api.Paper, against map[[2]string]bool) {
	t.Helper()
	var want []api.Pair
	for _, p := range l {
		var free []string
		for _, person := range w.People {
			var causes []api.Cause
			for _, a := range p.Authors {
				for _, why := range whys(t, w, terms, a, person.Key, day) {
					causes = append(causes, api.Cause{Author: a, Why: why})
				}
			}
			got, e := people.Causes(w, terms, person.Key, p, day)
			is(t, all(got, e), all(causes, api.OK))
			if slices.ContainsFunc(p.Authors, func(a string) bool { return against[[2]string{a, person.Key}] }) {
				want = append(want, api.Pair{Paper: p.Id, Person: person.Key})
			} else {
				free = append(free, person.Key)
			}
		}
		got, e := people.Free(w, terms, p, day)
		is(t, all(got, e), all(free, api.OK))
	}
	got, e := people.Barred(w, terms, l, day)
	is(t, all(got, e), all(want, api.OK))
}

func nearPlainly(t *testing.T, w api.World, terms api.Terms, day int, against map[[2]string]bool) {
	t.Helper()
	for _, start := range w.People {
		reached := map[string]bool{start.Key: true}
		for steps := range 4 {
			var want []string
			for _, p := range w.People {
				if reached[p.Key] && p.Key != start.Key {
					want = append(want, p.Key)
				}
			}
			got, e := people.Near(w, terms, start.Key, day, steps)
			is(t, all(got, e), all(want, api.OK))
			var next []string
			for _, a := range w.People {
				for _, b := range w.People {
					if reached[a.Key] && against[[2]string{a.Key, b.Key}] {
						next = append(next, b.Key)
					}
				}
			}
			for _, k := range next {
				reached[k] = true
			}
		}
	}
}

// P1.4, what follows: nothing more takes a reason away, and greater terms do not.
func TestReasonsStay(t *testing.T) {
	d := dice(11)
	for range 60 {
		w := d.world(t)
		terms := api.Terms{Home: d.below(10), Work: d.below(10)}
		more := api.Terms{Home: terms.Home + d.below(10), Work: terms.Work + d.below(10)}
		a, b := d.pick(keysOf(w.People)), d.pick(keysOf(w.People))
		bound := w
		if a != b {
			var e api.Errno
			bound, e = people.Declare(w, a, b)
			is(t, e, api.OK)
		}
		day := d.below(70)
		for _, x := range w.People {
			for _, y := range w.People {
				before := whys(t, w, terms, x.Key, y.Key, day)
				hasAll(t, whys(t, w, more, x.Key, y.Key, day), before)
				hasAll(t, whys(t, bound, terms, x.Key, y.Key, day), before)
			}
		}
	}
}

func hasAll(t *testing.T, l, want []int) {
	t.Helper()
	for _, why := range want {
		if !slices.Contains(l, why) {
			t.Errorf("%v lacks %d", l, why)
		}
	}
}
