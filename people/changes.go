package people

import (
	"cmp"
	"slices"

	"rebuttal/api"
	"rebuttal/index"
)

// Rename gives a person a name from a day on.
func Rename(w api.World, key, name string, day int) (api.World, api.Errno) {
	i, e := personOn(w, key, day)
	if e != api.OK {
		return api.World{}, e
	}
	c := clone(w)
	p := &c.People[i]
	p.Names = slices.DeleteFunc(p.Names, func(n api.Naming) bool { return n.From >= day })
	p.Names = append(p.Names, api.Naming{Name: name, From: day})
	return checked(c)
}

// Move lets a person have one home from a day on.
func Move(w api.World, key, place string, day int) (api.World, api.Errno) {
	i, e := personOn(w, key, day)
	if e != api.OK {
		return api.World{}, e
	}
	if _, known := placeNumbers(w.Places)[place]; place != "" && !known {
		return api.World{}, api.ErrNone
	}
	c := clone(w)
	p := &c.People[i]
	p.Homes = slices.DeleteFunc(p.Homes, func(h api.Home) bool { return h.From >= day })
	for j := range p.Homes {
		p.Homes[j].To = min(p.Homes[j].To, day)
	}
	if place != "" {
		p.Homes = append(p.Homes, api.Home{Place: place, From: day, To: api.MaxDay + 1})
	}
	p.Homes = uniqueHomes(p.Homes)
	return checked(c)
}

// Declare adds a bond.
func Declare(w api.World, a, b string) (api.World, api.Errno) {
	if _, _, e := twoPersons(w, a, b); e != api.OK {
		return api.World{}, e
	}
	c := clone(w)
	c.Bonds = uniqueBonds(append(c.Bonds, api.Bond{A: min(a, b), B: max(a, b)}))
	return checked(c)
}

// Merge makes two persons one.
func Merge(w api.World, into, from string) (api.World, api.Errno) {
	i, j, e := twoPersons(w, into, from)
	if e != api.OK {
		return api.World{}, e
	}
	c := clone(w)
	c.People[i] = joined(c.People[i], c.People[j])
	c.People = slices.Delete(c.People, j, j+1)
	put := func(l []string) []string {
		for k := range l {
			if l[k] == from {
				l[k] = into
			}
		}
		return unique(l)
	}
	for k := range c.People {
		p := &c.People[k]
		p.Advisers = slices.DeleteFunc(put(p.Advisers), func(a string) bool { return a == p.Key })
	}
	for k := range c.Works {
		c.Works[k].Authors = put(c.Works[k].Authors)
	}
	c.Works = uniqueWorks(c.Works)
	for k, b := range c.Bonds {
		l := put([]string{b.A, b.B})
		c.Bonds[k] = api.Bond{A: l[0], B: l[len(l)-1]}
	}
	c.Bonds = uniqueBonds(c.Bonds)
	return checked(c)
}

// MergePlaces makes two places one.
func MergePlaces(w api.World, into, from string) (api.World, api.Errno) {
	if e := Check(w); e != api.OK {
		return api.World{}, e
	}
	number, parent, _ := linked(w.Places)
	i, j, e := index.Two(number, into, from)
	if e != api.OK {
		return api.World{}, e
	}
	if index.Inside(parent, i, j) {
		return api.World{}, api.ErrLoop
	}
	if parent[j] != index.Top && !index.Inside(parent, i, parent[j]) {
		return api.World{}, api.ErrRule
	}
	c := clone(w)
	c.Places = slices.Delete(c.Places, j, j+1)
	for k := range c.Places {
		if c.Places[k].Parent == from {
			c.Places[k].Parent = into
		}
	}
	for _, p := range c.People {
		for k := range p.Homes {
			if p.Homes[k].Place == from {
				p.Homes[k].Place = into
			}
		}
	}
	for k := range c.People {
		c.People[k].Homes = uniqueHomes(c.People[k].Homes)
	}
	return checked(c)
}

// twoPersons are the numbers of two persons who are not the same, after the errors of the world.
func twoPersons(w api.World, a, b string) (int, int, api.Errno) {
	if e := Check(w); e != api.OK {
		return 0, 0, e
	}
	i, j, e := index.Two(personNumbers(w.People), a, b)
	if e != api.OK {
		return 0, 0, e
	}
	if i == j {
		return 0, 0, api.ErrLoop
	}
	return i, j, api.OK
}

// joined has what two persons have; the lists are those of copies.
func joined(into, from api.Person) api.Person {
	names := slices.Concat(into.Names, from.Names)
	// Stable, so that of two names with the same day that of into comes first, and stays.
	slices.SortStableFunc(names, func(a, b api.Naming) int { return cmp.Compare(a.From, b.From) })
	return api.Person{
		Key:      into.Key,
		Names:    slices.CompactFunc(names, func(a, b api.Naming) bool { return a.From == b.From }),
		Homes:    uniqueHomes(slices.Concat(into.Homes, from.Homes)),
		Mails:    unique(slices.Concat(into.Mails, from.Mails)),
		Advisers: slices.Concat(into.Advisers, from.Advisers),
	}
}

// checked is a changed world, if it is right.
func checked(w api.World) (api.World, api.Errno) {
	if e := Check(w); e != api.OK {
		return api.World{}, e
	}
	return w, api.OK
}

func clone(w api.World) api.World {
	c := api.World{
		Places: slices.Clone(w.Places),
		People: slices.Clone(w.People),
		Works:  slices.Clone(w.Works),
		Bonds:  slices.Clone(w.Bonds),
	}
	for i, p := range c.People {
		c.People[i].Names = slices.Clone(p.Names)
		c.People[i].Homes = slices.Clone(p.Homes)
		c.People[i].Mails = slices.Clone(p.Mails)
		c.People[i].Advisers = slices.Clone(p.Advisers)
	}
	for i, k := range c.Works {
		c.Works[i].Authors = slices.Clone(k.Authors)
	}
	return c
}

func uniqueHomes(l []api.Home) []api.Home {
	slices.SortFunc(l, compareHomes)
	return slices.Compact(l)
}

// uniqueWorks leaves out what nobody wrote together.
func uniqueWorks(l []api.Work) []api.Work {
	l = slices.DeleteFunc(l, func(k api.Work) bool { return len(k.Authors) < 2 })
	slices.SortFunc(l, compareWorks)
	return slices.CompactFunc(l, func(a, b api.Work) bool { return compareWorks(a, b) == 0 })
}

// uniqueBonds leaves out those of a person with itself.
func uniqueBonds(l []api.Bond) []api.Bond {
	l = slices.DeleteFunc(l, func(b api.Bond) bool { return b.A == b.B })
	slices.SortFunc(l, compareBonds)
	return slices.Compact(l)
}
