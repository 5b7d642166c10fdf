package people_test

import (
	"fmt"
	"math"
	"reflect"
	"slices"
	"strings"
	"sync"
	"testing"

	"rebuttal/api"
	"rebuttal/people"
)

// call is all that a function can be given.
type call struct {
	w       api.World
	terms   api.Terms
	papers  []api.Paper
	a, b    string
	day, by int
}

// results calls every function, and returns what each one returns.
func (c call) results() map[string][]any {
	var p api.Paper
	if len(c.papers) > 0 {
		p = c.papers[0]
	}
	return map[string][]any{
		"Check":       all(people.Check(c.w)),
		"CheckTerms":  all(people.CheckTerms(c.terms)),
		"Inside":      pack(people.Inside(c.w.Places, c.a, c.b)),
		"Above":       pack(people.Above(c.w.Places, c.a)),
		"NameOn":      pack(people.NameOn(c.w, c.a, c.day)),
		"HomesOn":     pack(people.HomesOn(c.w, c.a, c.day)),
		"Simple":      all(people.Simple(c.a), api.OK),
		"Find":        pack(people.Find(c.w, c.a)),
		"Doubles":     pack(people.Doubles(c.w)),
		"Partners":    pack(people.Partners(c.w, c.a, c.day, c.by)),
		"Why":         pack(people.Why(c.w, c.terms, c.a, c.b, c.day)),
		"CheckPapers": all(people.CheckPapers(c.w, c.papers)),
		"Causes":      pack(people.Causes(c.w, c.terms, c.a, p, c.day)),
		"Barred":      pack(people.Barred(c.w, c.terms, c.papers, c.day)),
		"Free":        pack(people.Free(c.w, c.terms, p, c.day)),
		"Near":        pack(people.Near(c.w, c.terms, c.a, c.day, c.by)),
		"Until":       pack(people.Until(c.w, c.terms, c.a, c.b, c.day)),
		"Rename":      pack(people.Rename(c.w, c.a, c.b, c.day)),
		"Move":        pack(people.Move(c.w, c.a, c.b, c.day)),
		"MoveOut":     pack(people.Move(c.w, c.a, "", c.day)),
		"Declare":     pack(people.Declare(c.w, c.a, c.b)),
		"Merge":       pack(people.Merge(c.w, c.a, c.b)),
		"MergePlaces": pack(people.MergePlaces(c.w, c.a, c.b)),
		"Text":        pack(people.Text(c.w)),
	}
}

func pack[T any](v T, e api.Errno) []any { return all(v, e) }

// calls are some for a world: with keys of persons, of places, and with what there is not.
func (d *dice) calls(w api.World) []call {
	keys := append(keysOf(w.People), "x", "")
	for _, p := range w.Places {
		keys = append(keys, p.Key)
	}
	days := []int{-1, 0, api.MaxDay, api.MaxDay + 1, math.MinInt, math.MaxInt}
	var l []call
	for i := range 12 {
		c := call{w: w, terms: api.Terms{Home: d.below(9), Work: d.below(9)}, papers: d.papers(keysOf(w.People)), a: d.pick(keys), b: d.pick(keys), day: d.below(60), by: d.below(9)}
		if i%4 == 3 {
			c.day = days[d.below(len(days))]
			c.by = days[d.below(len(days))]
			c.terms.Home = days[d.below(len(days))]
		}
		l = append(l, c)
	}
	return l
}

// memories are the arrays of all lists in a value, also what is behind their length.
func memories(v reflect.Value, l [][2]uintptr) [][2]uintptr {
	switch v.Kind() {
	case reflect.Interface:
		return memories(v.Elem(), l)
	case reflect.Struct:
		for i := range v.NumField() {
			l = memories(v.Field(i), l)
		}
	case reflect.Slice:
		if v.Cap() > 0 {
			from := v.Pointer()
			l = append(l, [2]uintptr{from, from + uintptr(v.Cap())*v.Type().Elem().Size()})
		}
		for i := range v.Len() {
			l = memories(v.Index(i), l)
		}
	}
	return l
}

// Z2: results are new memory, also with respect to each other, and arguments stay as they are, also behind their length.
func TestMemory(t *testing.T) {
	d := dice(13)
	for range 40 {
		w := d.world(t)
		for _, c := range d.calls(w) {
			c.w = roomy(c.w)
			before := fmt.Sprintf("%+v", behind(reflect.ValueOf(c)))
			results := c.results()
			is(t, fmt.Sprintf("%+v", behind(reflect.ValueOf(c))), before)
			for name, result := range results {
				apartFrom(t, name, memories(reflect.ValueOf(result[:1]), nil)[1:], memories(reflect.ValueOf(c), nil))
			}
			is(t, fmt.Sprintf("%+v", c.results()), fmt.Sprintf("%+v", results))
		}
	}
}

func apartFrom(t *testing.T, name string, result, given [][2]uintptr) {
	t.Helper()
	for i, a := range result {
		for _, b := range append(result[:i:i], given...) {
			if a[0] < b[1] && b[0] < a[1] {
				t.Errorf("%s: memory of a result is there twice", name)
			}
		}
	}
}

// roomy is a world whose lists have something behind their length.
func roomy(w api.World) api.World {
	junk := []string{"junk", "junk"}
	w.Places = append(w.Places, api.Place{Key: "junk"})[:len(w.Places)]
	w.People = append(w.People, api.Person{Key: "junk"})[:len(w.People)]
	w.Works = append(w.Works, api.Work{Day: 77})[:len(w.Works)]
	w.Bonds = append(w.Bonds, api.Bond{A: "junk"})[:len(w.Bonds)]
	for i := range w.People {
		p := &w.People[i]
		p.Names = append(p.Names, api.Naming{Name: "junk"})[:len(p.Names)]
		p.Homes = append(p.Homes, api.Home{Place: "junk"})[:len(p.Homes)]
		p.Mails = append(p.Mails, junk...)[:len(p.Mails)]
		p.Advisers = append(p.Advisers, junk...)[:len(p.Advisers)]
	}
	for i := range w.Works {
		k := &w.Works[i]
		k.Authors = append(k.Authors, junk...)[:len(k.Authors)]
	}
	return w
}

// behind is a value with its lists as long as their memory.
func behind(v reflect.Value) any {
	switch v.Kind() {
	case reflect.Struct:
		var l []any
		for i := range v.NumField() {
			l = append(l, behind(v.Field(i)))
		}
		return l
	case reflect.Slice:
		var l []any
		for i := range v.Cap() {
			l = append(l, behind(v.Slice(0, v.Cap()).Index(i)))
		}
		return l
	}
	return fmt.Sprint(v)
}

// Z3: with an error there is nothing else.
func TestZeroValues(t *testing.T) {
	d := dice(17)
	failed := map[string]bool{}
	for range 40 {
		w := d.world(t)
		bad := d.world(t)
		bad.People[0].Key = "Bad"
		for _, c := range append(d.calls(w), d.calls(bad)...) {
			for name, result := range c.results() {
				if last := result[len(result)-1]; last != api.OK {
					failed[name] = true
					v := reflect.ValueOf(result[0])
					if len(result) > 1 && !v.IsZero() && (v.Kind() != reflect.Slice || v.Len() > 0) {
						t.Errorf("%s: %+v", name, result)
					}
				}
			}
		}
	}
	// All but Simple fail at times.
	is(t, len(failed), len(call{}.results())-1)
}

// Z5: empty lists are as nil ones.
func TestEmptyLists(t *testing.T) {
	w := api.World{Places: []api.Place{}, Works: []api.Work{}, Bonds: []api.Bond{},
		People: []api.Person{{Key: "a", Names: []api.Naming{{Name: "A"}}, Homes: []api.Home{}, Mails: []string{}, Advisers: []string{}}}}
	is(t, text(t, w), "person a\nname 0 A\n")
	w.People[0].Names = []api.Naming{}
	is(t, people.Check(w), api.ErrForm)
	is(t, people.CheckPapers(api.World{}, []api.Paper{}), api.OK)
}

// Z1: nothing panics, whatever a world is.
func TestWildWorlds(t *testing.T) {
	d := dice(19)
	words := []string{"", "a", "b", "k0", "k1", "p0", "p1", "-", "A", " ", "\xff", "@", "a@x", strings.Repeat("z", 200_000)}
	days := []int{math.MinInt, -1, 0, 0, 0, 1, 2, 4000, 4001, math.MaxInt}
	list := func() []string {
		var l []string
		for range d.below(4) {
			l = append(l, d.pick(words))
		}
		return l
	}
	for range 3000 {
		w := d.world(t)
		switch p := &w.People[d.below(len(w.People))]; d.below(9) {
		case 0:
			p.Key = d.pick(words)
		case 1:
			p.Names = append(p.Names, api.Naming{Name: d.pick(words), From: days[d.below(len(days))]})
		case 2:
			p.Homes = append(p.Homes, api.Home{Place: d.pick(words), From: days[d.below(len(days))], To: days[d.below(len(days))]})
		case 3:
			p.Mails = list()
		case 4:
			p.Advisers = list()
		case 5:
			w.Works = append(w.Works, api.Work{Day: days[d.below(len(days))], Authors: list()})
		case 6:
			w.Bonds = append(w.Bonds, api.Bond{A: d.pick(words), B: d.pick(words)})
		case 7:
			w.Places[d.below(len(w.Places))] = api.Place{Key: d.pick(words), Parent: d.pick(words)}
		case 8:
			w.People = append(w.People, api.Person{})
		}
		c := call{w: w, papers: []api.Paper{{Id: d.pick(words), Track: "a", Title: "A", Authors: list(), Topics: list()}}, a: d.pick(words), b: d.pick(words)}
		c.results()
	}
}

// Z1: any number of goroutines at once.
func TestAtOnce(t *testing.T) {
	d := dice(23)
	c := d.calls(d.world(t))[0]
	want := fmt.Sprintf("%+v", c.results())
	var group sync.WaitGroup
	for range 8 {
		group.Go(func() { is(t, fmt.Sprintf("%+v", c.results()), want) })
	}
	group.Wait()
}

// Z1: the greatest world comes to an end.
func TestGreatest(t *testing.T) {
	w := greatest()
	is(t, people.Check(w), api.OK)
	terms := api.Terms{Home: api.MaxDay, Work: api.MaxDay}
	keys := keysOf(w.People)
	papers := manyPapers(api.MaxPapers)
	barred := 0
	for i := range papers {
		papers[i].Authors = nil
		among := map[string]bool{}
		for j := range api.MaxAuthors {
			n := (i + 7*j) % len(keys)
			papers[i].Authors = append(papers[i].Authors, keys[n])
			among[keys[n]] = true
			if n < api.MaxAuthors {
				for _, k := range keys[:api.MaxAuthors] {
					among[k] = true
				}
			}
		}
		barred += len(among)
		if i%100 == 0 {
			free, e := people.Free(w, terms, papers[i], api.MaxDay)
			is(t, all(len(free), e), all(api.MaxPeople-len(among), api.OK))
		}
	}
	l, e := people.Barred(w, terms, papers, api.MaxDay)
	is(t, all(len(l), e), all(barred, api.OK))
	near, e := people.Near(w, terms, keys[0], api.MaxDay, api.MaxPeople)
	is(t, all(near, e), all(keys[1:api.MaxAuthors], api.OK))
	n, e := people.Until(w, terms, keys[20], keys[21], 0)
	is(t, all(n, e), all(0, api.OK))
	n, e = people.Until(w, terms, keys[0], keys[1], 0)
	is(t, all(n, e), all(0, api.ErrNone))
	pairs, e := people.Doubles(w)
	is(t, all(len(pairs), e), all(0, api.OK))
	s, e := people.Text(w)
	is(t, all(s, e), all("", api.ErrLarge))
}

// greatest has as much as there can be, and only few conflicts, so that all of it must be looked at.
func greatest() api.World {
	w := api.World{Places: manyPlaces(api.MaxPlaces), People: manyPeople(api.MaxPeople)}
	for i := range w.People {
		p := &w.People[i]
		// All places are related, but no two persons are anywhere on the same day.
		for j := range api.MaxHomes {
			p.Homes = append(p.Homes, api.Home{Place: w.Places[(i+j)%(api.MaxPlaces-api.MaxHomes)+j].Key, From: 10 * i, To: 10*i + 1 + j%9})
		}
		slices.SortFunc(p.Homes, func(a, b api.Home) int { return strings.Compare(a.Place, b.Place) })
		for j := range api.MaxMails {
			p.Mails = append(p.Mails, fmt.Sprintf("m%d-%03d@x", j, i))
		}
		p.Names = nil
		for j := range api.MaxNames {
			p.Names = append(p.Names, api.Naming{Name: fmt.Sprintf("N %d %d", i, j), From: j})
		}
	}
	for day := range api.MaxWorks {
		w.Works = append(w.Works, api.Work{Day: day, Authors: keysOf(w.People[:api.MaxAuthors])})
	}
	return w
}
