package people_test

import (
	"fmt"
	"math"
	"strings"
	"testing"

	"rebuttal/api"
	"rebuttal/people"
)

// base has each kind of thing at least once.
func base() api.World {
	return api.World{
		Places: places("lab uni", "uni"),
		People: []api.Person{
			{Key: "ann", Names: []api.Naming{{Name: "Ann Lee"}, {Name: "Ann Roe", From: 200}}, Homes: []api.Home{{Place: "lab", From: 0, To: 100}}, Mails: []string{"a@x"}},
			{Key: "bob", Names: []api.Naming{{Name: "Bob"}}, Advisers: []string{"ann", "cid"}},
			{Key: "cid", Names: []api.Naming{{Name: "Cid"}}},
		},
		Works: []api.Work{{Day: 30, Authors: []string{"ann", "cid"}}, {Day: 30, Authors: []string{"bob", "cid"}}},
		Bonds: []api.Bond{{A: "ann", B: "bob"}, {A: "ann", B: "cid"}},
	}
}

type worldCase struct {
	name   string
	change func(w *api.World)
	want   api.Errno
}

func checkCases(t *testing.T, l []worldCase) {
	t.Helper()
	for _, c := range l {
		w := base()
		c.change(&w)
		if e := people.Check(w); e != c.want {
			t.Errorf("%s: got %d, want %d", c.name, e, c.want)
		}
	}
}

func manyPeople(n int) []api.Person {
	var l []api.Person
	for i := range n {
		l = append(l, api.Person{Key: fmt.Sprintf("q%03d", i), Names: []api.Naming{{Name: "Q"}}})
	}
	return l
}

func keysOf(l []api.Person) []string {
	var keys []string
	for _, p := range l {
		keys = append(keys, p.Key)
	}
	return keys
}

// P1.2: keys of people, and how many there are.
func TestCheckPeople(t *testing.T) {
	is(t, people.Check(api.World{}), api.OK)
	is(t, people.Check(base()), api.OK)
	is(t, people.Check(api.World{People: manyPeople(api.MaxPeople)}), api.OK)
	is(t, people.Check(api.World{People: manyPeople(api.MaxPeople + 1)}), api.ErrLarge)
	checkCases(t, []worldCase{
		{"places first", func(w *api.World) { w.Places[0].Key = "A"; w.People = manyPeople(301) }, api.ErrName},
		{"too many before keys", func(w *api.World) { w.People = manyPeople(301); w.People[0].Key = "Q" }, api.ErrLarge},
		{"no key", func(w *api.World) { w.People[0].Key = "" }, api.ErrName},
		{"key", func(w *api.World) { w.People[1].Key = "Bob" }, api.ErrName},
		{"same key", func(w *api.World) { w.People[1].Key = "ann" }, api.ErrOrder},
		{"key order", func(w *api.World) { w.People[1].Key = "aaa" }, api.ErrOrder},
		{"key before names", func(w *api.World) { w.People[1].Key = "aaa"; w.People[1].Names = nil }, api.ErrOrder},
		{"person by person", func(w *api.World) { w.People[0].Mails = []string{""}; w.People[1].Key = "" }, api.ErrForm},
		{"names before homes", func(w *api.World) { w.People[0].Names = nil; w.People[0].Homes[0].Place = "x" }, api.ErrForm},
		{"homes before mails", func(w *api.World) { w.People[0].Homes[0].Place = "x"; w.People[0].Mails[0] = "" }, api.ErrNone},
		{"mails before advisers", func(w *api.World) { w.People[1].Mails = []string{""}; w.People[1].Advisers[0] = "" }, api.ErrForm},
	})
}

func names(n int) []api.Naming {
	var l []api.Naming
	for i := range n {
		l = append(l, api.Naming{Name: "N", From: i})
	}
	return l
}

// P1.2, 2: names.
func TestCheckNames(t *testing.T) {
	set := func(l ...api.Naming) func(w *api.World) {
		return func(w *api.World) { w.People[2].Names = l }
	}
	long := strings.Repeat("n", api.MaxNaming)
	checkCases(t, []worldCase{
		{"none", set(), api.ErrForm},
		{"most", set(names(api.MaxNames)...), api.OK},
		{"too many", set(names(api.MaxNames + 1)...), api.ErrLarge},
		{"too many before form", set(append([]api.Naming{{}}, names(api.MaxNames)...)...), api.ErrLarge},
		{"empty", set(api.Naming{}), api.ErrForm},
		{"not plain", set(api.Naming{Name: "A  B"}), api.ErrForm},
		{"no UTF-8", set(api.Naming{Name: "A\xff"}), api.ErrForm},
		{"longest", set(api.Naming{Name: long}), api.OK},
		{"too long", set(api.Naming{Name: long + "n"}), api.ErrForm},
		{"first not 0", set(api.Naming{Name: "A", From: 1}), api.ErrOrder},
		{"first below 0", set(api.Naming{Name: "A", From: -1}), api.ErrOrder},
		{"first far", set(api.Naming{Name: "A", From: math.MaxInt}), api.ErrOrder},
		{"form before order", set(api.Naming{Name: " A", From: 1}), api.ErrForm},
		{"same day", set(api.Naming{Name: "A"}, api.Naming{Name: "B"}), api.ErrOrder},
		{"order", set(api.Naming{Name: "A"}, api.Naming{Name: "B", From: 5}, api.Naming{Name: "C", From: 4}), api.ErrOrder},
		{"far down", set(api.Naming{Name: "A"}, api.Naming{Name: "B", From: math.MinInt}), api.ErrOrder},
		{"last day", set(api.Naming{Name: "A"}, api.Naming{Name: "B", From: api.MaxDay}), api.OK},
		{"after it", set(api.Naming{Name: "A"}, api.Naming{Name: "B", From: api.MaxDay + 1}), api.ErrArg},
		{"far up", set(api.Naming{Name: "A"}, api.Naming{Name: "B", From: math.MaxInt}, api.Naming{}), api.ErrArg},
	})
}

// P1.2, 3: homes.
func TestCheckHomes(t *testing.T) {
	set := func(l ...api.Home) func(w *api.World) {
		return func(w *api.World) { w.People[2].Homes = l }
	}
	var many []api.Home
	for i := range api.MaxHomes + 1 {
		many = append(many, api.Home{Place: "lab", From: i, To: i + 1})
	}
	checkCases(t, []worldCase{
		{"none", set(), api.OK},
		{"most", set(many[1:]...), api.OK},
		{"too many", set(many...), api.ErrLarge},
		{"too many before place", set(append([]api.Home{{}}, many[1:]...)...), api.ErrLarge},
		{"no place", set(api.Home{Place: "x", To: 1}), api.ErrNone},
		{"empty place", set(api.Home{To: 1}), api.ErrNone},
		{"place before days", set(api.Home{Place: "x", From: -1}), api.ErrNone},
		{"shortest", set(api.Home{Place: "lab", From: 0, To: 1}), api.OK},
		{"empty", set(api.Home{Place: "lab", From: 1, To: 1}), api.ErrArg},
		{"backwards", set(api.Home{Place: "lab", From: 2, To: 1}), api.ErrArg},
		{"below 0", set(api.Home{Place: "lab", From: -1, To: 1}), api.ErrArg},
		{"far", set(api.Home{Place: "lab", From: 0, To: math.MinInt}), api.ErrArg},
		{"far up", set(api.Home{Place: "lab", From: 0, To: math.MaxInt}), api.ErrArg},
		{"all days", set(api.Home{Place: "lab", From: 0, To: api.MaxDay + 1}), api.OK},
		{"last day", set(api.Home{Place: "lab", From: api.MaxDay, To: api.MaxDay + 1}), api.OK},
		{"too late", set(api.Home{Place: "lab", From: 0, To: api.MaxDay + 2}), api.ErrArg},
		{"by From", set(api.Home{Place: "uni", From: 1, To: 9}, api.Home{Place: "lab", From: 2, To: 3}), api.OK},
		{"not by From", set(api.Home{Place: "lab", From: 2, To: 3}, api.Home{Place: "uni", From: 1, To: 9}), api.ErrOrder},
		{"by Place", set(api.Home{Place: "lab", From: 1, To: 9}, api.Home{Place: "uni", From: 1, To: 3}), api.OK},
		{"not by Place", set(api.Home{Place: "uni", From: 1, To: 3}, api.Home{Place: "lab", From: 1, To: 9}), api.ErrOrder},
		{"by To", set(api.Home{Place: "lab", From: 1, To: 3}, api.Home{Place: "lab", From: 1, To: 4}), api.OK},
		{"not by To", set(api.Home{Place: "lab", From: 1, To: 4}, api.Home{Place: "lab", From: 1, To: 3}), api.ErrOrder},
		{"twice", set(api.Home{Place: "lab", From: 1, To: 4}, api.Home{Place: "lab", From: 1, To: 4}), api.ErrOrder},
		{"days before order", set(api.Home{Place: "lab", From: 1, To: 4}, api.Home{Place: "lab", From: 0, To: 0}), api.ErrArg},
	})
}

// P1.2, 4: mails.
func TestCheckMails(t *testing.T) {
	set := func(l ...string) func(w *api.World) {
		return func(w *api.World) { w.People[2].Mails = l }
	}
	var many []string
	for i := range api.MaxMails + 1 {
		many = append(many, fmt.Sprintf("m%02d@x", i))
	}
	long := "a@" + strings.Repeat("x", api.MaxMail-2)
	l := []worldCase{
		{"most", set(many[1:]...), api.OK},
		{"too many", set(many...), api.ErrLarge},
		{"too many before form", set(append([]string{""}, many[1:]...)...), api.ErrLarge},
		{"longest", set(long), api.OK},
		{"too long", set(long + "x"), api.ErrForm},
		{"order", set("a@x", "b@x", "b@y"), api.OK},
		{"not in order", set("b@x", "a@x"), api.ErrOrder},
		{"twice", set("b@x", "b@x"), api.ErrOrder},
		{"form before order", set("b@x", "a@"), api.ErrForm},
	}
	for _, good := range []string{"a@b", "!@~", "a.b-c@d.e", "0@9", "a@[`{"} {
		l = append(l, worldCase{good, set(good), api.OK})
	}
	for _, bad := range []string{"", "@", "a@", "@b", "@ab", "ab@", "abc", "a@b@c", "@a@b", "a@b@", "A@b", "a@Z", "a b@c", "a@\x7f", "a@\x1f", "ä@b", "a@\x80"} {
		l = append(l, worldCase{bad, set(bad), api.ErrForm})
	}
	checkCases(t, l)
}

// P1.2, 5: advisers.
func TestCheckAdvisers(t *testing.T) {
	crowd := func(l ...string) func(w *api.World) {
		return func(w *api.World) {
			*w = api.World{People: manyPeople(20)}
			w.People[5].Advisers = l
		}
	}
	keys := keysOf(manyPeople(20))
	checkCases(t, []worldCase{
		{"most", crowd(keys[6 : 6+api.MaxAdvised]...), api.OK},
		{"too many", crowd(keys[6 : 7+api.MaxAdvised]...), api.ErrLarge},
		{"too many before keys", crowd(append([]string{""}, keys[6:6+api.MaxAdvised]...)...), api.ErrLarge},
		{"no key", crowd("Q"), api.ErrName},
		{"empty", crowd(""), api.ErrName},
		{"twice", crowd("q000", "q000"), api.ErrOrder},
		{"order", crowd("q001", "q000"), api.ErrOrder},
		{"order before loop", crowd("q006", "q005"), api.ErrOrder},
		{"loop", crowd("q005"), api.ErrLoop},
		{"loop later", crowd("q000", "q005"), api.ErrLoop},
		{"unknown", crowd("x"), api.ErrNone},
		{"each other", func(w *api.World) { w.People[2].Advisers = []string{"bob"} }, api.OK},
		{"unknown after all people", func(w *api.World) { w.People[1].Advisers = []string{"x"}; w.People[2].Key = "" }, api.ErrName},
		{"unknown before works", func(w *api.World) { w.People[1].Advisers = []string{"x"}; w.Works[0].Day = -1 }, api.ErrNone},
	})
}

// P1.2: works.
func TestCheckWorks(t *testing.T) {
	set := func(l ...api.Work) func(w *api.World) {
		return func(w *api.World) { w.Works = l }
	}
	by := func(day int, authors ...string) api.Work { return api.Work{Day: day, Authors: authors} }
	var many []api.Work
	for i := range api.MaxWorks + 1 {
		many = append(many, by(i, "ann", "bob"))
	}
	crowd := func(n int) func(w *api.World) {
		return func(w *api.World) {
			*w = api.World{People: manyPeople(30), Works: []api.Work{by(0, keysOf(manyPeople(n))...)}}
		}
	}
	checkCases(t, []worldCase{
		{"most", set(many[1:]...), api.OK},
		{"too many", set(many...), api.ErrLarge},
		{"too many before days", set(append([]api.Work{by(-1)}, many[1:]...)...), api.ErrLarge},
		{"below 0", set(by(-1, "ann", "bob")), api.ErrArg},
		{"last day", set(by(api.MaxDay, "ann", "bob")), api.OK},
		{"too late", set(by(api.MaxDay+1, "ann", "bob")), api.ErrArg},
		{"day before authors", set(by(-1)), api.ErrArg},
		{"none", set(by(0)), api.ErrForm},
		{"alone", set(by(0, "ann")), api.ErrForm},
		{"most authors", crowd(api.MaxAuthors), api.OK},
		{"too many authors", crowd(api.MaxAuthors + 1), api.ErrLarge},
		{"too many before unknown", set(by(0, strings.Fields(strings.Repeat("x ", 21))...)), api.ErrLarge},
		{"unknown", set(by(0, "ann", "x")), api.ErrNone},
		{"unknown before order", set(by(0, "cid", "a")), api.ErrNone},
		{"order before a later unknown", set(by(0, "cid", "bob", "x")), api.ErrOrder},
		{"twice", set(by(0, "bob", "bob")), api.ErrOrder},
		{"by day", set(by(1, "bob", "cid"), by(2, "ann", "bob")), api.OK},
		{"not by day", set(by(2, "ann", "bob"), by(1, "bob", "cid")), api.ErrOrder},
		{"by authors", set(by(1, "ann", "bob"), by(1, "ann", "cid")), api.OK},
		{"not by authors", set(by(1, "ann", "cid"), by(1, "ann", "bob")), api.ErrOrder},
		{"shorter first", set(by(1, "ann", "bob"), by(1, "ann", "bob", "cid"), by(1, "ann", "cid")), api.OK},
		{"longer first", set(by(1, "ann", "bob", "cid"), by(1, "ann", "bob")), api.ErrOrder},
		{"equal", set(by(1, "ann", "bob"), by(1, "ann", "bob")), api.ErrOrder},
		{"authors before order", set(by(2, "ann", "bob"), by(1, "ann")), api.ErrForm},
		{"before bonds", func(w *api.World) { w.Works[0].Day = -1; w.Bonds[0].A = "x" }, api.ErrArg},
	})
}

// P1.2: bonds.
func TestCheckBonds(t *testing.T) {
	bonds := func(n int) func(w *api.World) {
		return func(w *api.World) {
			*w = api.World{People: manyPeople(100), Bonds: manyBonds(n)}
		}
	}
	set := func(l ...api.Bond) func(w *api.World) {
		return func(w *api.World) { w.Bonds = l }
	}
	checkCases(t, []worldCase{
		{"most", bonds(api.MaxBonds), api.OK},
		{"too many", bonds(api.MaxBonds + 1), api.ErrLarge},
		{"too many before unknown", func(w *api.World) { w.Bonds = manyBonds(api.MaxBonds + 1) }, api.ErrLarge},
		{"no A", set(api.Bond{A: "a", B: "bob"}), api.ErrNone},
		{"no B", set(api.Bond{A: "ann", B: "x"}), api.ErrNone},
		{"unknown before order", set(api.Bond{A: "x", B: "bob"}), api.ErrNone},
		{"same", set(api.Bond{A: "ann", B: "ann"}), api.ErrOrder},
		{"turned", set(api.Bond{A: "bob", B: "ann"}), api.ErrOrder},
		{"by A", set(api.Bond{A: "ann", B: "cid"}, api.Bond{A: "bob", B: "cid"}), api.OK},
		{"not by A", set(api.Bond{A: "bob", B: "cid"}, api.Bond{A: "ann", B: "cid"}), api.ErrOrder},
		{"not by B", set(api.Bond{A: "ann", B: "cid"}, api.Bond{A: "ann", B: "bob"}), api.ErrOrder},
		{"twice", set(api.Bond{A: "ann", B: "cid"}, api.Bond{A: "ann", B: "cid"}), api.ErrOrder},
	})
}

func manyBonds(n int) []api.Bond {
	keys := keysOf(manyPeople(100))
	var l []api.Bond
	for i, a := range keys {
		for _, b := range keys[i+1:] {
			if len(l) < n {
				l = append(l, api.Bond{A: a, B: b})
			}
		}
	}
	return l
}

// P1.2: terms.
func TestCheckTerms(t *testing.T) {
	for _, n := range []int{0, 1, api.MaxDay} {
		is(t, people.CheckTerms(api.Terms{Home: n, Work: api.MaxDay - n}), api.OK)
	}
	for _, n := range []int{-1, api.MaxDay + 1, math.MinInt, math.MaxInt} {
		is(t, people.CheckTerms(api.Terms{Home: n}), api.ErrArg)
		is(t, people.CheckTerms(api.Terms{Work: n}), api.ErrArg)
	}
}

func manyPapers(n int) []api.Paper {
	var l []api.Paper
	for i := range n {
		l = append(l, api.Paper{Id: fmt.Sprintf("r%03d", i), Track: "main", Title: "T", Authors: []string{"ann"}})
	}
	return l
}

// P1.5: papers.
func TestCheckPapers(t *testing.T) {
	is(t, people.CheckPapers(base(), nil), api.OK)
	is(t, people.CheckPapers(base(), manyPapers(api.MaxPapers)), api.OK)
	is(t, people.CheckPapers(base(), manyPapers(api.MaxPapers+1)), api.ErrLarge)
	is(t, people.CheckPapers(base(), append([]api.Paper{{}}, manyPapers(api.MaxPapers)...)), api.ErrLarge)
	is(t, people.CheckPapers(api.World{People: []api.Person{{}}}, manyPapers(401)), api.ErrName)
	keys := keysOf(manyPeople(api.MaxTopics + 1))
	w := base()
	w.People = append(w.People, manyPeople(30)...)
	is(t, people.Check(w), api.OK)
	title := strings.Repeat("t", api.MaxTitle)
	for i, c := range []struct {
		change func(p *api.Paper)
		want   api.Errno
	}{
		{func(p *api.Paper) {}, api.OK},
		{func(p *api.Paper) { p.Id = "" }, api.ErrName},
		{func(p *api.Paper) { p.Track = "" }, api.ErrName},
		{func(p *api.Paper) { p.Id, p.Track = "a", "M" }, api.ErrName},
		{func(p *api.Paper) { p.Id = "paper1" }, api.ErrOrder},
		{func(p *api.Paper) { p.Id, p.Title = "paper0", "" }, api.ErrOrder},
		{func(p *api.Paper) { p.Title = "" }, api.ErrForm},
		{func(p *api.Paper) { p.Title = "a " }, api.ErrForm},
		{func(p *api.Paper) { p.Title = title }, api.OK},
		{func(p *api.Paper) { p.Title = title + "t" }, api.ErrForm},
		{func(p *api.Paper) { p.Title, p.Authors = "", keys[:21] }, api.ErrForm},
		{func(p *api.Paper) { p.Authors = nil }, api.ErrForm},
		{func(p *api.Paper) { p.Authors = keys[:api.MaxAuthors] }, api.OK},
		{func(p *api.Paper) { p.Authors = keys[:api.MaxAuthors+1] }, api.ErrLarge},
		{func(p *api.Paper) { p.Authors = strings.Fields(strings.Repeat("x ", 21)) }, api.ErrLarge},
		{func(p *api.Paper) { p.Authors = []string{"cid", "ann"} }, api.OK},
		{func(p *api.Paper) { p.Authors = []string{"ann", "x"} }, api.ErrNone},
		{func(p *api.Paper) { p.Authors = []string{"ann", "x", "ann"} }, api.ErrNone},
		{func(p *api.Paper) { p.Authors = []string{"ann", "bob", "ann", "x"} }, api.ErrTwice},
		{func(p *api.Paper) { p.Authors, p.Topics = []string{"x"}, keys }, api.ErrNone},
		{func(p *api.Paper) { p.Topics = keys[:api.MaxTopics] }, api.OK},
		{func(p *api.Paper) { p.Topics = keys }, api.ErrLarge},
		{func(p *api.Paper) { p.Topics = append([]string{""}, keys[1:]...) }, api.ErrLarge},
		{func(p *api.Paper) { p.Topics = []string{"a", "B"} }, api.ErrName},
		{func(p *api.Paper) { p.Topics = []string{""} }, api.ErrName},
		{func(p *api.Paper) { p.Topics = []string{"a", "a"} }, api.ErrOrder},
		{func(p *api.Paper) { p.Topics = []string{"b", "a", ""} }, api.ErrOrder},
	} {
		good := api.Paper{Id: "paper1", Track: "main", Title: "A title", Authors: []string{"ann", "bob"}, Topics: []string{"a", "b"}}
		next := good
		next.Id = "paper2"
		c.change(&next)
		last := good
		last.Id, last.Title = "paper3", ""
		is(t, all(i, people.CheckPapers(w, []api.Paper{good, next})), all(i, c.want))
		if c.want != api.OK {
			is(t, all(i, people.CheckPapers(w, []api.Paper{good, next, last})), all(i, c.want))
		}
	}
}
