package people_test

import (
	"fmt"
	"strings"
	"testing"

	"rebuttal/api"
	"rebuttal/people"
)

// P1.8 and Z10: what Text writes Read reads to an equal value, and the other way round.
func TestTextAndRead(t *testing.T) {
	for _, s := range []string{"", small, named, apart, "place a b\nplace b -\n", "person a\nname 0 \u00c4 - 5\nname 4000 -\n"} {
		is(t, text(t, read(t, s)), s)
	}
	s, e := people.Text(base())
	is(t, all(s, e), all("place lab uni\nplace uni -\n"+
		"person ann\nname 0 Ann Lee\nname 200 Ann Roe\nhome lab 0 100\nmail a@x\nperson bob\nname 0 Bob\nadviser ann\nadviser cid\nperson cid\nname 0 Cid\n"+
		"work 30 ann cid\nwork 30 bob cid\nbond ann bob\nbond ann cid\n", api.OK))
	is(t, read(t, s), base())
	d := dice(9)
	for range 200 {
		w := d.world(t)
		is(t, read(t, text(t, w)), w)
	}
}

// Z10: Read accepts nothing but what Text writes.
func TestReadExactly(t *testing.T) {
	d := dice(29)
	pieces := []string{"", " ", "\n", "0", "-", "1", "a", "\t", "\xff", "name 3 N\n", "home uni 1 2\n", "work 40 bob dan\n", "place zoo uni\n", "bond cid dan\n", "mail z@z\n", "adviser dan\n"}
	accepted := 0
	for range 20_000 {
		at := d.below(len(small))
		s := small[:at] + d.pick(pieces) + small[min(len(small), at+d.below(3)):]
		w, _, e := people.Read(s)
		if e == api.OK {
			accepted++
			is(t, text(t, w), s)
		}
	}
	if accepted < 1000 || accepted > 19_000 {
		t.Errorf("%d accepted", accepted)
	}
}

// P1.8: errors of Text.
func TestTextErrors(t *testing.T) {
	s, e := people.Text(api.World{People: []api.Person{{}}})
	is(t, all(s, e), all("", api.ErrName))
	w := longWorld(t, api.MaxText)
	s, e = people.Text(w)
	is(t, all(len(s), e), all(api.MaxText, api.OK))
	is(t, read(t, s), w)
	last := &w.People[len(w.People)-1].Names[0]
	last.Name += "x"
	s, e = people.Text(w)
	is(t, all(s, e), all("", api.ErrLarge))
}

// longWorld has a text of so many bytes.
func longWorld(t *testing.T, bytes int) api.World {
	t.Helper()
	w := api.World{People: manyPeople(api.MaxPeople)}
	left := bytes - len(text(t, w))
	for i := range w.People {
		p := &w.People[i]
		for from := 1; from < api.MaxNames && left > 200; from++ {
			p.Names = append(p.Names, api.Naming{Name: strings.Repeat("n", api.MaxNaming-1), From: from})
			left -= len("name 1 \n") + api.MaxNaming - 1
		}
	}
	last := &w.People[len(w.People)-1]
	last.Names = []api.Naming{{Name: strings.Repeat("x", left/2+1)}, {Name: strings.Repeat("y", left-left/2-len("name 1 \n")), From: 1}}
	return w
}

// P1.8: the first line that is wrong.
func TestReadSyntax(t *testing.T) {
	const two = "place a -\nperson p\n"
	for s, line := range map[string]int{
		"\n": 0, " \n": 0, "x": 0, "place a -": 0, "place a -\nplace b -": 1, "place a -\n\n": 1, "\nplace a -\n": 0, "place a -\n\nplace b": 1,
		"place\n": 0, "place a\n": 0, "place a \n": 0, "place  a\n": 0, "place a - \n": 0, "place a b c\n": 0, " place a -\n": 0, "Place a -\n": 0, "places a -\n": 0, "place a  -\n": 0,
		"person\n": 0, "person \n": 0, "person a b\n": 0, "person a \n": 0, "people a\n": 0,
		two + "name\n": 2, two + "name 0\n": 2, two + "name 0 \n": 2, two + "name  A\n": 2, two + "name A 0\n": 2, two + "name 00 A\n": 2, two + "name -0 A\n": 2, two + "name +1 A\n": 2, two + "name 1234567890 A\n": 2, two + "name 0 A": 2,
		two + "home a 0\n": 2, two + "home a 0 1 2\n": 2, two + "home a 0 01\n": 2, two + "home a x 1\n": 2, two + "home a 1 x\n": 2, two + "home  0 1\n": 2, two + "home\n": 2, two + "home a 0 1 \n": 2, two + "home a 0 1000000000\n": 2,
		two + "mail\n": 2, two + "mail \n": 2, two + "mail a b\n": 2, two + "mail a \n": 2,
		two + "adviser\n": 2, two + "adviser \n": 2, two + "adviser a b\n": 2,
		"work\n": 0, "work \n": 0, "work x\n": 0, "work 5 \n": 0, "work 5  a\n": 0, "work 05 a\n": 0, "work a 5\n": 0, "work 5 a \n": 0,
		"bond\n": 0, "bond a\n": 0, "bond a b c\n": 0, "bond a \n": 0, "bond  a b\n": 0,
		"place a -\r\nx\n": 1,
	} {
		w, n, e := people.Read(s)
		is(t, all(s, w, n, e), all(s, api.World{}, line, api.ErrSyntax))
	}
}

// P1.8: which line can be behind which one.
func TestReadOrder(t *testing.T) {
	kinds := []string{"place", "person", "name", "home", "mail", "adviser", "work", "bond"}
	lines := []string{"place a -\n", "person p\n", "name 0 A\n", "home a 0 1\n", "mail a@x\n", "adviser q\n", "work 0 p q\n", "bond p q\n"}
	// In this table a line of the kind of the row can be behind one of the kind of the column if there is an x; the last column is the start.
	table := []string{
		"x.......x",
		"xxxxxx..x",
		".xx......",
		".xxx.....",
		".xxxx....",
		".xxxxx...",
		"xxxxxxx.x",
		"xxxxxxxxx",
	}
	for i, row := range table {
		for j, mark := range row {
			s := lines[i]
			if j < len(kinds) {
				s = lines[j] + s
				if j >= 2 && j <= 5 {
					s = "person p\n" + s
				}
			}
			_, n, e := people.Read(s)
			if good := e != api.ErrSyntax; good != (mark == 'x') {
				t.Errorf("%q: %d", s, e)
			} else if !good && n != strings.Count(s, "\n")-1 {
				t.Errorf("%q: line %d", s, n)
			}
		}
	}
}

// P1.8: what is no error of syntax is one of Check, and has no number.
func TestReadChecks(t *testing.T) {
	for s, want := range map[string]api.Errno{
		"place A -\n":                                     api.ErrName,
		"place - -\n":                                     api.ErrName,
		"place a A\n":                                     api.ErrName,
		"place \xff\t -\n":                                api.ErrName,
		"place b -\nplace a -\n":                          api.ErrOrder,
		"place a b\n":                                     api.ErrNone,
		"place a a\n":                                     api.ErrLoop,
		"person p\n":                                      api.ErrForm,
		"person p\nperson q\nname 0 A\n":                  api.ErrForm,
		"person p\nname 0  A\n":                           api.ErrForm,
		"person p\nname 0 A \n":                           api.ErrForm,
		"person p\nname 0  \n":                            api.ErrForm,
		"person p\nname 0 A  B\n":                         api.ErrForm,
		"person p\nname 0 A\r\n":                          api.ErrForm,
		"person p\nname -1 A\n":                           api.ErrOrder,
		"person p\nname 5 A\n":                            api.ErrOrder,
		"person p\nname 0 A\nname 999999999 B\n":          api.ErrArg,
		"place a -\nperson p\nname 0 A\nhome a -5 1\n":    api.ErrArg,
		"place a -\nperson p\nname 0 A\nhome b 0 1\n":     api.ErrNone,
		"person p\nname 0 A\nmail x\n":                    api.ErrForm,
		"person p\nname 0 A\nadviser p\n":                 api.ErrLoop,
		"work 5\n":                                        api.ErrForm,
		"work -5\n":                                       api.ErrArg,
		"work 5 a b\n":                                    api.ErrNone,
		"work 5" + strings.Repeat(" a", 21) + "\n":        api.ErrLarge,
		"bond a b\n":                                      api.ErrNone,
		strings.Repeat("place a -\n", api.MaxPlaces+1):    api.ErrLarge,
		strings.Repeat("person p\n", api.MaxPeople+1):     api.ErrLarge,
		strings.Repeat("work 1\n", api.MaxWorks+1):        api.ErrLarge,
		strings.Repeat("bond a b\n", api.MaxBonds+1):      api.ErrLarge,
		"person p\n" + strings.Repeat("name 0 A\n", 11):   api.ErrLarge,
		strings.Repeat("bond a b\n", 20_000) + "bond a\n": api.ErrSyntax,
	} {
		line := 0
		if want == api.ErrSyntax {
			line = 20_000
		}
		w, n, e := people.Read(s)
		is(t, all(w, n, e), all(api.World{}, line, want))
	}
}

// P1.8: texts that are too long are not looked at.
func TestReadLarge(t *testing.T) {
	for _, s := range []string{strings.Repeat("\n", api.MaxText), strings.Repeat("x", api.MaxText)} {
		_, n, e := people.Read(s)
		is(t, all(n, e), all(0, api.ErrSyntax))
		w, n, e := people.Read(s + "\n")
		is(t, all(w, n, e), all(api.World{}, 0, api.ErrLarge))
	}
	good := text(t, longWorld(t, api.MaxText))
	_, n, e := people.Read(good)
	is(t, all(n, e), all(0, api.OK))
	_, n, e = people.Read(good + fmt.Sprintln("bond q000 q001"))
	is(t, all(n, e), all(0, api.ErrLarge))
}
