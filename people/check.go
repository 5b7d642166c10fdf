package people

import (
	"cmp"
	"slices"
	"strings"

	"rebuttal/api"
	"rebuttal/index"
	"rebuttal/papers"
	"rebuttal/syntax"
)

// Check validates a world.
func Check(w api.World) api.Errno {
	if _, _, e := linked(w.Places); e != api.OK {
		return e
	}
	if e := checkPeople(w); e != api.OK {
		return e
	}
	number := personNumbers(w.People)
	if e := checkKnown(w.People, number); e != api.OK {
		return e
	}
	if e := checkWorks(w.Works, number); e != api.OK {
		return e
	}
	return checkBonds(w.Bonds, number)
}

// CheckTerms validates terms.
func CheckTerms(t api.Terms) api.Errno {
	if !isDay(t.Home) || !isDay(t.Work) {
		return api.ErrArg
	}
	return api.OK
}

// CheckPapers validates papers of known authors.
func CheckPapers(w api.World, l []api.Paper) api.Errno {
	if e := Check(w); e != api.OK {
		return e
	}
	number := personNumbers(w.People)
	return papers.Check(l, func(author string) api.Errno {
		if _, known := number[author]; !known {
			return api.ErrNone
		}
		return api.OK
	})
}

func checkPeople(w api.World) api.Errno {
	places := placeNumbers(w.Places)
	return syntax.RisingBy(w.People, api.MaxPeople, personKey, func(p api.Person) api.Errno { return checkPerson(p, places) })
}

// checkPerson validates a person, but for the key.
func checkPerson(p api.Person, places map[string]int) api.Errno {
	if e := checkNames(p.Names); e != api.OK {
		return e
	}
	if e := checkHomes(p.Homes, places); e != api.OK {
		return e
	}
	if e := checkMails(p.Mails); e != api.OK {
		return e
	}
	return checkAdvisers(p)
}

func checkNames(l []api.Naming) api.Errno {
	if len(l) == 0 {
		return api.ErrForm
	}
	if len(l) > api.MaxNames {
		return api.ErrLarge
	}
	for i, n := range l {
		if !syntax.Label(n.Name, api.MaxNaming) {
			return api.ErrForm
		}
		if i == 0 && n.From != 0 || i > 0 && n.From <= l[i-1].From {
			return api.ErrOrder
		}
		if n.From > api.MaxDay {
			return api.ErrArg
		}
	}
	return api.OK
}

func checkHomes(l []api.Home, places map[string]int) api.Errno {
	if len(l) > api.MaxHomes {
		return api.ErrLarge
	}
	for i, h := range l {
		if _, known := places[h.Place]; !known {
			return api.ErrNone
		}
		if h.From < 0 || h.From >= h.To || h.To > api.MaxDay+1 {
			return api.ErrArg
		}
		if i > 0 && compareHomes(l[i-1], h) >= 0 {
			return api.ErrOrder
		}
	}
	return api.OK
}

func checkMails(l []string) api.Errno {
	if len(l) > api.MaxMails {
		return api.ErrLarge
	}
	last := ""
	for _, m := range l {
		if !isMail(m) {
			return api.ErrForm
		}
		if m <= last {
			return api.ErrOrder
		}
		last = m
	}
	return api.OK
}

func isMail(s string) bool {
	if len(s) < 3 || len(s) > api.MaxMail {
		return false
	}
	for i := range len(s) {
		if c := s[i]; c < 33 || c > 126 || c >= 'A' && c <= 'Z' {
			return false
		}
	}
	at := strings.IndexByte(s, '@')
	return at > 0 && at < len(s)-1 && at == strings.LastIndexByte(s, '@')
}

func checkAdvisers(p api.Person) api.Errno {
	itself := func(adviser string) string { return adviser }
	return syntax.RisingBy(p.Advisers, api.MaxAdvised, itself, func(adviser string) api.Errno {
		if adviser == p.Key {
			return api.ErrLoop
		}
		return api.OK
	})
}

func checkKnown(l []api.Person, number map[string]int) api.Errno {
	for _, p := range l {
		for _, a := range p.Advisers {
			if _, known := number[a]; !known {
				return api.ErrNone
			}
		}
	}
	return api.OK
}

func checkWorks(l []api.Work, number map[string]int) api.Errno {
	if len(l) > api.MaxWorks {
		return api.ErrLarge
	}
	for i, w := range l {
		if e := checkDay(w.Day); e != api.OK {
			return e
		}
		if e := checkWriters(w.Authors, number); e != api.OK {
			return e
		}
		if i > 0 && compareWorks(l[i-1], w) >= 0 {
			return api.ErrOrder
		}
	}
	return api.OK
}

// checkWriters validates the authors of a work.
func checkWriters(l []string, number map[string]int) api.Errno {
	if len(l) < 2 {
		return api.ErrForm
	}
	if len(l) > api.MaxAuthors {
		return api.ErrLarge
	}
	return index.Rising(number, l)
}

func checkBonds(l []api.Bond, number map[string]int) api.Errno {
	if len(l) > api.MaxBonds {
		return api.ErrLarge
	}
	for i, b := range l {
		if _, _, e := index.Two(number, b.A, b.B); e != api.OK {
			return e
		}
		if b.B <= b.A || i > 0 && compareBonds(l[i-1], b) >= 0 {
			return api.ErrOrder
		}
	}
	return api.OK
}

func compareHomes(a, b api.Home) int {
	return cmp.Or(cmp.Compare(a.From, b.From), strings.Compare(a.Place, b.Place), cmp.Compare(a.To, b.To))
}

func compareWorks(a, b api.Work) int {
	return cmp.Or(cmp.Compare(a.Day, b.Day), slices.Compare(a.Authors, b.Authors))
}

func compareBonds(a, b api.Bond) int {
	return cmp.Or(strings.Compare(a.A, b.A), strings.Compare(a.B, b.B))
}
