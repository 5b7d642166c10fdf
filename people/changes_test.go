package people_test

import (
	"fmt"
	"math"
	"strings"
	"testing"

	"rebuttal/api"
	"rebuttal/people"
)

const named = "place a -\nplace b a\nperson ann\nname 0 A\nname 5 B\nname 9 C\nhome a 0 4\nhome a 0 6\nhome b 2 9\nhome a 5 7\nperson bob\nname 0 B\n"

func replaced(s string, pairs ...string) string { return strings.NewReplacer(pairs...).Replace(s) }

// P1.6: Rename.
func TestRename(t *testing.T) {
	w := read(t, named)
	all3 := "name 0 A\nname 5 B\nname 9 C\n"
	for day, want := range map[int]string{
		0: "name 0 New\n", 1: "name 0 A\nname 1 New\n", 5: "name 0 A\nname 5 New\n", 6: "name 0 A\nname 5 B\nname 6 New\n",
		9: "name 0 A\nname 5 B\nname 9 New\n", 10: all3 + "name 10 New\n", api.MaxDay: all3 + "name 4000 New\n",
	} {
		got, e := people.Rename(w, "ann", "New", day)
		isWorld(t, got, e, replaced(named, all3, want))
	}
	got, e := people.Rename(w, "ann", "C", 12)
	isWorld(t, got, e, replaced(named, all3, all3+"name 12 C\n"))
	is(t, text(t, w), named)
}

// P1.6: errors of Rename.
func TestRenameErrors(t *testing.T) {
	w := read(t, named)
	full := read(t, named)
	full.People[0].Names = names(api.MaxNames)
	for _, c := range []struct {
		w         api.World
		key, name string
		day       int
		want      api.Errno
	}{
		{api.World{People: []api.Person{{}}}, "x", "", -1, api.ErrName}, {w, "x", "", -1, api.ErrNone}, {w, "ann", "", -1, api.ErrArg}, {w, "ann", "N", 4001, api.ErrArg},
		{w, "ann", "N", math.MinInt, api.ErrArg}, {w, "ann", "", 0, api.ErrForm}, {w, "ann", " N", 0, api.ErrForm}, {w, "ann", strings.Repeat("n", 101), 9, api.ErrForm},
		{full, "ann", "N", 10, api.ErrLarge}, {full, "ann", "", 10, api.ErrLarge},
	} {
		got, e := people.Rename(c.w, c.key, c.name, c.day)
		isError(t, got, e, c.want)
	}
	got, e := people.Rename(full, "ann", "N", 9)
	is(t, all(len(got.People[0].Names), e), all(10, api.OK))
}

// P1.6: Move.
func TestMove(t *testing.T) {
	w := read(t, named)
	homes := "home a 0 4\nhome a 0 6\nhome b 2 9\nhome a 5 7\n"
	for day, want := range map[int]string{
		0: "", 1: "home a 0 1\n", 2: "home a 0 2\n", 3: "home a 0 3\nhome b 2 3\n", 4: "home a 0 4\nhome b 2 4\n", 5: "home a 0 4\nhome a 0 5\nhome b 2 5\n",
		6: "home a 0 4\nhome a 0 6\nhome b 2 6\nhome a 5 6\n", 8: "home a 0 4\nhome a 0 6\nhome b 2 8\nhome a 5 7\n", 9: homes, 100: homes, api.MaxDay: homes,
	} {
		got, e := people.Move(w, "ann", "", day)
		isWorld(t, got, e, replaced(named, homes, want))
		got, e = people.Move(w, "ann", "a", day)
		isWorld(t, got, e, replaced(named, homes, want+fmt.Sprintf("home a %d 4001\n", day)))
	}
	is(t, text(t, w), named)
}

// P1.6: errors of Move.
func TestMoveErrors(t *testing.T) {
	w := read(t, named)
	full := read(t, named)
	for i := range api.MaxHomes - 4 {
		full.People[0].Homes = append(full.People[0].Homes, api.Home{Place: "a", From: 10 + i, To: 20 + i})
	}
	for _, c := range []struct {
		w          api.World
		key, place string
		day        int
		want       api.Errno
	}{
		{api.World{People: []api.Person{{}}}, "x", "x", -1, api.ErrName}, {w, "x", "x", -1, api.ErrNone}, {w, "ann", "x", -1, api.ErrArg}, {w, "ann", "a", 4001, api.ErrArg},
		{w, "ann", "x", 0, api.ErrNone}, {full, "ann", "a", 100, api.ErrLarge},
	} {
		got, e := people.Move(c.w, c.key, c.place, c.day)
		isError(t, got, e, c.want)
	}
	got, e := people.Move(full, "ann", "", 100)
	isWorld(t, got, e, text(t, full))
	got, e = people.Move(full, "ann", "b", 25)
	is(t, all(len(got.People[0].Homes), e), all(20, api.OK))
}

// P1.6: Declare.
func TestDeclare(t *testing.T) {
	w := read(t, small)
	got, e := people.Declare(w, "dan", "ann")
	isWorld(t, got, e, replaced(small, "bond bob cid\n", "bond ann dan\nbond bob cid\n"))
	got, e = people.Declare(w, "bob", "dan")
	isWorld(t, got, e, small+"bond bob dan\n")
	for _, c := range [][2]string{{"bob", "cid"}, {"cid", "bob"}} {
		got, e = people.Declare(w, c[0], c[1])
		isWorld(t, got, e, small)
	}
	is(t, text(t, w), small)
	full := api.World{People: manyPeople(100), Bonds: manyBonds(api.MaxBonds)}
	for _, c := range []struct {
		w    api.World
		a, b string
		want api.Errno
	}{
		{api.World{People: []api.Person{{}}}, "x", "x", api.ErrName}, {w, "x", "ann", api.ErrNone}, {w, "ann", "x", api.ErrNone}, {w, "x", "x", api.ErrNone},
		{w, "ann", "ann", api.ErrLoop}, {full, "q098", "q099", api.ErrLarge},
	} {
		got, e := people.Declare(c.w, c.a, c.b)
		isError(t, got, e, c.want)
	}
	got, e = people.Declare(full, "q001", "q000")
	is(t, all(len(got.Bonds), e), all(api.MaxBonds, api.OK))
}

const apart = "place a -\nplace b -\n" +
	"person ann\nname 0 A\nname 5 B\nhome a 0 9\nhome b 3 4\nmail a@x\nmail m@x\nadviser bob\nadviser dan\n" +
	"person bob\nname 0 X\nname 3 Y\nname 5 Z\nhome a 0 9\nhome a 1 2\nmail b@x\nmail m@x\nadviser ann\nadviser cid\nadviser dan\n" +
	"person cid\nname 0 C\nadviser ann\nadviser bob\n" +
	"person dan\nname 0 D\nadviser bob\n" +
	"work 1 ann bob\nwork 1 ann bob cid\nwork 1 bob cid\nwork 2 ann dan\nwork 2 bob cid\nwork 2 bob dan\n" +
	"bond ann bob\nbond ann cid\nbond bob cid\nbond bob dan\nbond cid dan\n"

// P1.7: Merge, in both directions.
func TestMerge(t *testing.T) {
	w := read(t, apart)
	got, e := people.Merge(w, "ann", "bob")
	isWorld(t, got, e, "place a -\nplace b -\n"+
		"person ann\nname 0 A\nname 3 Y\nname 5 B\nhome a 0 9\nhome a 1 2\nhome b 3 4\nmail a@x\nmail b@x\nmail m@x\nadviser cid\nadviser dan\n"+
		"person cid\nname 0 C\nadviser ann\nperson dan\nname 0 D\nadviser ann\n"+
		"work 1 ann cid\nwork 2 ann cid\nwork 2 ann dan\nbond ann cid\nbond ann dan\nbond cid dan\n")
	got, e = people.Merge(w, "bob", "ann")
	isWorld(t, got, e, "place a -\nplace b -\n"+
		"person bob\nname 0 X\nname 3 Y\nname 5 Z\nhome a 0 9\nhome a 1 2\nhome b 3 4\nmail a@x\nmail b@x\nmail m@x\nadviser cid\nadviser dan\n"+
		"person cid\nname 0 C\nadviser bob\nperson dan\nname 0 D\nadviser bob\n"+
		"work 1 bob cid\nwork 2 bob cid\nwork 2 bob dan\nbond bob cid\nbond bob dan\nbond cid dan\n")
	is(t, text(t, w), apart)
}

// P1.7: what takes the place of another one is sorted anew.
func TestMergeSorts(t *testing.T) {
	w := read(t, "person ann\nname 0 A\nperson bob\nname 0 B\nperson cid\nname 0 C\nadviser ann\nadviser dan\nperson dan\nname 0 D\nperson zoe\nname 0 Z\n"+
		"work 1 ann bob\nwork 1 bob cid dan\nbond ann bob\nbond bob dan\n")
	got, e := people.Merge(w, "zoe", "ann")
	isWorld(t, got, e, "person bob\nname 0 B\nperson cid\nname 0 C\nadviser dan\nadviser zoe\nperson dan\nname 0 D\nperson zoe\nname 0 Z\n"+
		"work 1 bob cid dan\nwork 1 bob zoe\nbond bob dan\nbond bob zoe\n")
}

// P1.7: errors of Merge.
func TestMergeErrors(t *testing.T) {
	w := read(t, apart)
	for _, c := range []struct {
		w          api.World
		into, from string
		want       api.Errno
	}{
		{api.World{People: []api.Person{{}}}, "x", "x", api.ErrName}, {w, "x", "ann", api.ErrNone}, {w, "ann", "x", api.ErrNone}, {w, "x", "x", api.ErrNone}, {w, "ann", "ann", api.ErrLoop},
	} {
		got, e := people.Merge(c.w, c.into, c.from)
		isError(t, got, e, c.want)
	}
	for _, change := range []func(a, b *api.Person, i int){
		func(a, b *api.Person, i int) { b.Names = append(b.Names, api.Naming{Name: "N", From: i + 1}) },
		func(a, b *api.Person, i int) { b.Homes = append(b.Homes, api.Home{Place: "a", From: i, To: 50}) },
		func(a, b *api.Person, i int) { b.Mails = append(b.Mails, fmt.Sprintf("%02d@x", i)) },
		func(a, b *api.Person, i int) { b.Advisers = append(b.Advisers, fmt.Sprintf("q%03d", i)) },
	} {
		isFull(t, change)
	}
}

// isFull lets b have more until it and a have together more than one person can have.
func isFull(t *testing.T, change func(a, b *api.Person, i int)) {
	t.Helper()
	w := api.World{Places: places("a"), People: append([]api.Person{
		{Key: "ann", Names: []api.Naming{{Name: "A"}, {Name: "B", From: 4000}}, Homes: []api.Home{{Place: "a", From: 0, To: 1}}, Mails: []string{"ann@x"}, Advisers: []string{"q020"}},
		{Key: "bob", Names: []api.Naming{{Name: "A"}}},
	}, manyPeople(30)...)}
	for i := 0; people.Check(w) == api.OK; i++ {
		got, e := people.Merge(w, "ann", "bob")
		a, b := w.People[0], w.People[1]
		large := len(a.Names)+len(b.Names)-1 > api.MaxNames || len(a.Homes)+len(b.Homes) > api.MaxHomes ||
			len(a.Mails)+len(b.Mails) > api.MaxMails || len(a.Advisers)+len(b.Advisers) > api.MaxAdvised
		if large {
			isError(t, got, e, api.ErrLarge)
			return
		}
		is(t, e, api.OK)
		change(&w.People[0], &w.People[1], i)
	}
	t.Errorf("b is full before a and b are")
}

// P1.7, what follows: who is made of two has all reasons that both had with others.
func TestMergeKeepsReasons(t *testing.T) {
	d := dice(5)
	for range 60 {
		w := d.world(t)
		terms := api.Terms{Home: d.below(10), Work: d.below(10)}
		keys := keysOf(w.People)
		into, from := d.pick(keys), d.pick(keys)
		got, e := people.Merge(w, into, from)
		if into == from {
			isError(t, got, e, api.ErrLoop)
			continue
		}
		is(t, all(e, len(got.People)), all(api.OK, len(keys)-1))
		for _, k := range keys {
			if k == into || k == from {
				continue
			}
			for day := 0; day < 70; day += 1 + d.below(5) {
				after := whys(t, got, terms, into, k, day)
				hasAll(t, after, whys(t, w, terms, into, k, day))
				hasAll(t, after, whys(t, w, terms, from, k, day))
			}
		}
	}
}

// P1.7: MergePlaces.
func TestMergePlaces(t *testing.T) {
	const l = "place a c\nplace b c\nplace c -\nplace d b\nplace e -\n" +
		"person ann\nname 0 A\nhome a 0 5\nhome b 0 5\nhome c 0 5\nhome d 0 5\nperson bob\nname 0 B\nhome d 0 1\n"
	w := read(t, l)
	for _, c := range []struct{ into, from, want string }{
		{"a", "b", "place a c\nplace c -\nplace d a\nplace e -\nperson ann\nname 0 A\nhome a 0 5\nhome c 0 5\nhome d 0 5\nperson bob\nname 0 B\nhome d 0 1\n"},
		{"b", "a", "place b c\nplace c -\nplace d b\nplace e -\nperson ann\nname 0 A\nhome b 0 5\nhome c 0 5\nhome d 0 5\nperson bob\nname 0 B\nhome d 0 1\n"},
		{"c", "a", "place b c\nplace c -\nplace d b\nplace e -\nperson ann\nname 0 A\nhome b 0 5\nhome c 0 5\nhome d 0 5\nperson bob\nname 0 B\nhome d 0 1\n"},
		{"d", "a", "place b c\nplace c -\nplace d b\nplace e -\nperson ann\nname 0 A\nhome b 0 5\nhome c 0 5\nhome d 0 5\nperson bob\nname 0 B\nhome d 0 1\n"},
		{"a", "e", "place a c\nplace b c\nplace c -\nplace d b\nperson ann\nname 0 A\nhome a 0 5\nhome b 0 5\nhome c 0 5\nhome d 0 5\nperson bob\nname 0 B\nhome d 0 1\n"},
		{"e", "c", "place a e\nplace b e\nplace d b\nplace e -\nperson ann\nname 0 A\nhome a 0 5\nhome b 0 5\nhome d 0 5\nhome e 0 5\nperson bob\nname 0 B\nhome d 0 1\n"},
		{"b", "d", "place a c\nplace b c\nplace c -\nplace e -\nperson ann\nname 0 A\nhome a 0 5\nhome b 0 5\nhome c 0 5\nperson bob\nname 0 B\nhome b 0 1\n"},
	} {
		got, e := people.MergePlaces(w, c.into, c.from)
		isWorld(t, got, e, c.want)
	}
	is(t, text(t, w), l)
	for _, c := range []struct {
		w          api.World
		into, from string
		want       api.Errno
	}{
		{api.World{People: []api.Person{{}}}, "x", "x", api.ErrName}, {w, "x", "a", api.ErrNone}, {w, "a", "x", api.ErrNone}, {w, "x", "x", api.ErrNone},
		{w, "a", "a", api.ErrLoop}, {w, "a", "c", api.ErrLoop}, {w, "d", "c", api.ErrLoop}, {w, "d", "b", api.ErrLoop},
		{w, "e", "a", api.ErrRule}, {w, "a", "d", api.ErrRule}, {w, "c", "d", api.ErrRule}, {w, "e", "d", api.ErrRule},
	} {
		got, e := people.MergePlaces(c.w, c.into, c.from)
		isError(t, got, e, c.want)
	}
}

// P1.7, what follows: after MergePlaces nobody has fewer conflicts.
func TestMergePlacesKeepsReasons(t *testing.T) {
	d := dice(6)
	merged := 0
	for range 200 {
		w := d.world(t)
		terms := api.Terms{Home: d.below(10), Work: d.below(10)}
		into, from := w.Places[d.below(len(w.Places))].Key, w.Places[d.below(len(w.Places))].Key
		got, e := people.MergePlaces(w, into, from)
		if e != api.OK {
			isError(t, got, e, e)
			continue
		}
		merged++
		for _, a := range w.People {
			for _, b := range w.People {
				day := d.below(70)
				hasAll(t, whys(t, got, terms, a.Key, b.Key, day), whys(t, w, terms, a.Key, b.Key, day))
			}
		}
	}
	if merged < 40 {
		t.Errorf("only %d merged", merged)
	}
}
