package people

import (
	"slices"

	"rebuttal/api"
)

// facts are what reasons follow from, by the numbers of persons, places and works, so that all pairs of a world can be looked at.
type facts struct {
	world   api.World
	terms   api.Terms
	number  map[string]int
	related [][]bool
	stays   [][]stay
	wrote   [][]bool // of a person and a work
	bonds   map[api.Bond]bool
}

// stay is a home, with the number of its place.
type stay struct{ place, from, to int }

// newFacts needs a world and terms that are right.
func newFacts(w api.World, t api.Terms) *facts {
	f := &facts{
		world:   w,
		terms:   t,
		number:  personNumbers(w.People),
		related: related(w.Places),
		stays:   stays(w),
		bonds:   make(map[api.Bond]bool, len(w.Bonds)),
	}
	f.wrote = wrote(w, f.number)
	for _, b := range w.Bonds {
		f.bonds[b] = true
	}
	return f
}

func stays(w api.World) [][]stay {
	number := placeNumbers(w.Places)
	l := make([][]stay, len(w.People))
	for i, p := range w.People {
		for _, h := range p.Homes {
			l[i] = append(l[i], stay{number[h.Place], h.From, h.To})
		}
	}
	return l
}

func wrote(w api.World, number map[string]int) [][]bool {
	table := make([][]bool, len(w.People))
	for i := range table {
		table[i] = make([]bool, len(w.Works))
	}
	for n, k := range w.Works {
		for _, a := range k.Authors {
			table[number[a]][n] = true
		}
	}
	return table
}

// reasons are those of two persons on a day, rising.
func (f *facts) reasons(a, b, day int) []int {
	var l []int
	for why := api.WhySelf; why <= api.WhyBond; why++ {
		if f.holds(why, a, b, day) {
			l = append(l, why)
		}
	}
	return l
}

func (f *facts) conflict(a, b, day int) bool {
	for why := api.WhySelf; why <= api.WhyBond; why++ {
		if f.holds(why, a, b, day) {
			return true
		}
	}
	return false
}

func (f *facts) holds(why, a, b, day int) bool {
	switch why {
	case api.WhySelf:
		return a == b
	case api.WhyAdviser:
		return f.advises(a, b) || f.advises(b, a)
	case api.WhyHome:
		return f.lived(a, b, day)
	case api.WhyWork:
		return f.worked(a, b, day)
	}
	return f.bound(a, b)
}

func (f *facts) advises(a, b int) bool {
	return slices.Contains(f.world.People[b].Advisers, f.world.People[a].Key)
}

func (f *facts) lived(a, b, day int) bool {
	for _, x := range f.stays[a] {
		for _, y := range f.stays[b] {
			from := max(x.from, y.from, day-f.terms.Home)
			to := min(x.to, y.to, day+1)
			if from < to && f.related[x.place][y.place] {
				return true
			}
		}
	}
	return false
}

func (f *facts) worked(a, b, day int) bool {
	for n, k := range f.world.Works {
		if k.Day >= day-f.terms.Work && k.Day <= day && f.wrote[a][n] && f.wrote[b][n] {
			return true
		}
	}
	return false
}

func (f *facts) bound(a, b int) bool {
	one, other := f.world.People[a].Key, f.world.People[b].Key
	return f.bonds[api.Bond{A: min(one, other), B: max(one, other)}]
}

// against is a function that says with whom a person has a conflict on a day, and finds it out once for each person.
func (f *facts) against(day int) func(int) []bool {
	known := map[int][]bool{}
	return func(a int) []bool {
		if l, ok := known[a]; ok {
			return l
		}
		l := make([]bool, len(f.world.People))
		for b := range l {
			l[b] = f.conflict(a, b, day)
		}
		known[a] = l
		return l
	}
}

// barred says of each person whether it may not judge a paper.
func (f *facts) barred(p api.Paper, against func(int) []bool) []bool {
	l := make([]bool, len(f.world.People))
	for _, author := range p.Authors {
		for i, conflict := range against(f.number[author]) {
			l[i] = l[i] || conflict
		}
	}
	return l
}
