package people_test

import (
	"fmt"
	"reflect"
	"slices"
	"strconv"
	"testing"

	"rebuttal/api"
	"rebuttal/people"
)

// is compares values as they print: nil and empty lists are the same (Z5).
func is(t *testing.T, got, want any) {
	t.Helper()
	g, w := fmt.Sprintf("%+v", got), fmt.Sprintf("%+v", want)
	if g != w {
		t.Errorf("got %s, want %s", g, w)
	}
}

// all makes a list of the results of a call.
func all(l ...any) []any { return l }

func read(t *testing.T, text string) api.World {
	t.Helper()
	w, n, e := people.Read(text)
	is(t, all(n, e), all(0, api.OK))
	return w
}

func text(t *testing.T, w api.World) string {
	t.Helper()
	s, e := people.Text(w)
	is(t, e, api.OK)
	return s
}

// isWorld compares a world that a call returned with a text.
func isWorld(t *testing.T, w api.World, e api.Errno, want string) {
	t.Helper()
	is(t, e, api.OK)
	s, e := people.Text(w)
	if s != want || e != api.OK {
		t.Errorf("got %d, world:\n%swant:\n%s", e, s, want)
	}
}

// isError wants an error, and a world without anything.
func isError(t *testing.T, w api.World, e, want api.Errno) {
	t.Helper()
	is(t, all(w, e), all(api.World{}, want))
}

const small = "place hall -\nplace lab uni\nplace uni -\n" +
	"person ann\nname 0 Ann Lee\nname 200 Ann Roe\nhome lab 0 100\nmail a@x\n" +
	"person bob\nname 0 Bob B. Ray\nhome uni 50 4001\n" +
	"person cid\nname 0 Cid Moe\nadviser bob\n" +
	"person dan\nname 0 Dan Fox\n" +
	"work 30 ann cid\nbond bob cid\n"

// dice is a row of numbers that look thrown, and are the same each time.
type dice uint64

func (d *dice) below(n int) int {
	*d = *d*6364136223846793005 + 1442695040888963407
	return int(uint64(*d)>>33) % n
}

func (d *dice) pick(l []string) string { return l[d.below(len(l))] }

// some are up to n different strings of a list, sorted.
func (d *dice) some(l []string, n int) []string {
	var s []string
	for range d.below(n + 1) {
		s = append(s, d.pick(l))
	}
	slices.Sort(s)
	return slices.Compact(s)
}

// world is a small one, on the days from 0 to 60, with much in common.
func (d *dice) world(t *testing.T) api.World {
	t.Helper()
	var w api.World
	var places, keys []string
	for i := range 1 + d.below(6) {
		p := api.Place{Key: "p" + strconv.Itoa(i)}
		if i > 0 && d.below(3) > 0 {
			p.Parent = d.pick(places)
		}
		places = append(places, p.Key)
		w.Places = append(w.Places, p)
	}
	// Parents come after their parts, too.
	if n := len(w.Places); n > 1 && w.Places[n-1].Parent == "" && w.Places[0].Parent == "" {
		w.Places[0].Parent = w.Places[n-1].Key
	}
	for i := range 2 + d.below(5) {
		keys = append(keys, "k"+strconv.Itoa(i))
	}
	for _, k := range keys {
		w.People = append(w.People, d.person(k, keys, places))
	}
	for range d.below(8) {
		k := api.Work{Day: d.below(60), Authors: d.some(keys, 4)}
		if len(k.Authors) > 1 {
			w.Works = append(w.Works, k)
		}
	}
	slices.SortFunc(w.Works, func(a, b api.Work) int {
		if a.Day != b.Day {
			return a.Day - b.Day
		}
		return slices.Compare(a.Authors, b.Authors)
	})
	w.Works = slices.CompactFunc(w.Works, func(a, b api.Work) bool { return reflect.DeepEqual(a, b) })
	for i, a := range keys {
		for _, b := range keys[i+1:] {
			if d.below(8) == 0 {
				w.Bonds = append(w.Bonds, api.Bond{A: a, B: b})
			}
		}
	}
	is(t, people.Check(w), api.OK)
	return w
}

func (d *dice) person(key string, keys, places []string) api.Person {
	p := api.Person{Key: key}
	names := []string{"Ann Lee", "ann lee", "A. Lee", "A Lee", "Bob", "Bob,", "C"}
	for day := 0; day < 60; day += 1 + d.below(60) {
		p.Names = append(p.Names, api.Naming{Name: d.pick(names), From: day})
	}
	for range d.below(4) {
		from := d.below(50)
		p.Homes = append(p.Homes, api.Home{Place: d.pick(places), From: from, To: from + 1 + d.below(12)})
	}
	slices.SortFunc(p.Homes, func(a, b api.Home) int {
		if a.From != b.From {
			return a.From - b.From
		}
		if a.Place != b.Place {
			return slices.Compare([]byte(a.Place), []byte(b.Place))
		}
		return a.To - b.To
	})
	p.Homes = slices.Compact(p.Homes)
	p.Mails = d.some([]string{"a@x", "b@x", "c@x", "d@x", "e@x", "f@x"}, 2)
	if d.below(4) == 0 {
		p.Advisers = slices.DeleteFunc(d.some(keys, 2), func(k string) bool { return k == key })
	}
	return p
}
