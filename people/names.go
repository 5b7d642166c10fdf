package people

import (
	"slices"

	"rebuttal/api"
)

// NameOn is the name of a person on a day.
func NameOn(w api.World, key string, day int) (string, api.Errno) {
	i, e := personOn(w, key, day)
	if e != api.OK {
		return "", e
	}
	name := ""
	for _, n := range w.People[i].Names {
		if n.From <= day {
			name = n.Name
		}
	}
	return name, api.OK
}

// HomesOn are the places of a person on a day.
func HomesOn(w api.World, key string, day int) ([]string, api.Errno) {
	i, e := personOn(w, key, day)
	if e != api.OK {
		return nil, e
	}
	var places []string
	for _, h := range w.People[i].Homes {
		if h.From <= day && h.To > day {
			places = append(places, h.Place)
		}
	}
	return unique(places), api.OK
}

// Simple is a name without what does not matter.
func Simple(name string) string {
	var simple []byte
	blank := false
	for i := range len(name) {
		c := name[i]
		switch {
		case c == '.' || c == ',':
			continue
		case c == ' ':
			blank = true
			continue
		case c >= 'A' && c <= 'Z':
			c += 'a' - 'A'
		}
		if blank && len(simple) > 0 {
			simple = append(simple, ' ')
		}
		blank = false
		simple = append(simple, c)
	}
	return string(simple)
}

// Find are the persons with a name.
func Find(w api.World, name string) ([]string, api.Errno) {
	if e := Check(w); e != api.OK {
		return nil, e
	}
	simple := Simple(name)
	var keys []string
	for _, p := range w.People {
		if slices.Contains(simpleNames(p), simple) {
			keys = append(keys, p.Key)
		}
	}
	return keys, api.OK
}

// Doubles are pairs of persons who can be one.
func Doubles(w api.World) ([]api.Bond, api.Errno) {
	if e := Check(w); e != api.OK {
		return nil, e
	}
	names := make([][]string, len(w.People))
	for i, p := range w.People {
		names[i] = simpleNames(p)
	}
	var pairs []api.Bond
	for i, a := range w.People {
		for j, b := range w.People[:i] {
			if share(a.Mails, b.Mails) || share(names[i], names[j]) {
				pairs = append(pairs, api.Bond{A: b.Key, B: a.Key})
			}
		}
	}
	slices.SortFunc(pairs, compareBonds)
	return pairs, api.OK
}

// simpleNames are the names of a person, simple and sorted.
func simpleNames(p api.Person) []string {
	var l []string
	for _, n := range p.Names {
		l = append(l, Simple(n.Name))
	}
	return unique(l)
}

// share reports whether two sorted lists have a string in common.
func share(a, b []string) bool {
	i, j := 0, 0
	for i < len(a) && j < len(b) {
		if a[i] == b[j] {
			return true
		}
		if a[i] < b[j] {
			i++
		} else {
			j++
		}
	}
	return false
}

// unique sorts a list of one's own, and leaves equal strings there once.
func unique(l []string) []string {
	slices.Sort(l)
	return slices.Compact(l)
}
