package people

import (
	"slices"

	"rebuttal/api"
	"rebuttal/index"
)

// Partners are the persons with whom somebody wrote.
func Partners(w api.World, key string, day, days int) ([]string, api.Errno) {
	if _, e := personOn(w, key, day); e != api.OK {
		return nil, e
	}
	if e := checkDay(days); e != api.OK {
		return nil, e
	}
	var partners []string
	for _, k := range w.Works {
		if k.Day < day-days || k.Day > day || !slices.Contains(k.Authors, key) {
			continue
		}
		for _, a := range k.Authors {
			if a != key {
				partners = append(partners, a)
			}
		}
	}
	return unique(partners), api.OK
}

// Why are the reasons of two persons on a day.
func Why(w api.World, t api.Terms, a, b string, day int) ([]int, api.Errno) {
	f, i, j, e := pairOn(w, t, a, b, day)
	if e != api.OK {
		return nil, e
	}
	return f.reasons(i, j, day), api.OK
}

// Until is the least day on which two persons have no conflict.
func Until(w api.World, t api.Terms, a, b string, day int) (int, api.Errno) {
	f, i, j, e := pairOn(w, t, a, b, day)
	if e != api.OK {
		return 0, e
	}
	for d := day; d <= api.MaxDay; d++ {
		if !f.conflict(i, j, d) {
			return d, api.OK
		}
	}
	return 0, api.ErrNone
}

// Causes are the reasons of a person and the authors of a paper.
func Causes(w api.World, t api.Terms, person string, p api.Paper, day int) ([]api.Cause, api.Errno) {
	if e := CheckPapers(w, []api.Paper{p}); e != api.OK {
		return nil, e
	}
	if e := CheckTerms(t); e != api.OK {
		return nil, e
	}
	f := newFacts(w, t)
	i, known := f.number[person]
	if !known {
		return nil, api.ErrNone
	}
	if e := checkDay(day); e != api.OK {
		return nil, e
	}
	var causes []api.Cause
	for _, author := range p.Authors {
		for _, why := range f.reasons(i, f.number[author], day) {
			causes = append(causes, api.Cause{Author: author, Why: why})
		}
	}
	return causes, api.OK
}

// Barred are all pairs of a paper and a person who may not judge it.
func Barred(w api.World, t api.Terms, l []api.Paper, day int) ([]api.Pair, api.Errno) {
	f, e := papersOn(w, t, l, day)
	if e != api.OK {
		return nil, e
	}
	against := f.against(day)
	var pairs []api.Pair
	for _, p := range l {
		for i, barred := range f.barred(p, against) {
			if barred {
				pairs = append(pairs, api.Pair{Paper: p.Id, Person: w.People[i].Key})
			}
		}
	}
	return pairs, api.OK
}

// Free are the persons who may judge a paper.
func Free(w api.World, t api.Terms, p api.Paper, day int) ([]string, api.Errno) {
	f, e := papersOn(w, t, []api.Paper{p}, day)
	if e != api.OK {
		return nil, e
	}
	var free []string
	for i, barred := range f.barred(p, f.against(day)) {
		if !barred {
			free = append(free, w.People[i].Key)
		}
	}
	return free, api.OK
}

// Near are the persons to whom one comes from a person by conflicts.
func Near(w api.World, t api.Terms, key string, day, steps int) ([]string, api.Errno) {
	f, start, _, e := pairOn(w, t, key, key, day)
	if e != api.OK {
		return nil, e
	}
	if steps < 0 || steps > api.MaxPeople {
		return nil, api.ErrArg
	}
	against := f.against(day)
	reached := map[int]bool{start: true}
	edge := []int{start}
	var near []string
	for step := 0; step < steps && len(edge) > 0; step++ {
		var next []int
		for _, a := range edge {
			for b, conflict := range against(a) {
				if conflict && !reached[b] {
					reached[b] = true
					next = append(next, b)
					near = append(near, w.People[b].Key)
				}
			}
		}
		edge = next
	}
	return unique(near), api.OK
}

// pairOn are the facts of a world and the numbers of two persons, after the errors of all of them and of the day.
func pairOn(w api.World, t api.Terms, a, b string, day int) (*facts, int, int, api.Errno) {
	if e := Check(w); e != api.OK {
		return nil, 0, 0, e
	}
	if e := CheckTerms(t); e != api.OK {
		return nil, 0, 0, e
	}
	i, j, e := index.Two(personNumbers(w.People), a, b)
	if e != api.OK {
		return nil, 0, 0, e
	}
	if e := checkDay(day); e != api.OK {
		return nil, 0, 0, e
	}
	return newFacts(w, t), i, j, api.OK
}

// papersOn are the facts of a world, after its errors and those of papers, terms and a day.
func papersOn(w api.World, t api.Terms, l []api.Paper, day int) (*facts, api.Errno) {
	if e := CheckPapers(w, l); e != api.OK {
		return nil, e
	}
	if e := CheckTerms(t); e != api.OK {
		return nil, e
	}
	if e := checkDay(day); e != api.OK {
		return nil, e
	}
	return newFacts(w, t), api.OK
}
