package topic_test

import (
	"fmt"
	"math"
	"reflect"
	"slices"
	"strings"
	"sync"
	"testing"

	"rebuttal/api"
	"rebuttal/topic"
)

// inputs is all that a function can be given.
type inputs struct {
	fair
	skills          []api.Skill
	wanted          []string
	key, other      string
	number, percent int
	f, g            api.Fraction
	text            string
}

// results calls every function, and returns what each one returns.
func (x inputs) results() map[string][]any {
	l, n, e := topic.ParseForest(x.text)
	return map[string][]any{
		"CheckForest":  all(topic.CheckForest(x.l)),
		"Above":        pack(topic.Above(x.l, x.key)),
		"Below":        pack(topic.Below(x.l, x.key)),
		"Meet":         pack(topic.Meet(x.l, x.key, x.other)),
		"Near":         pack(topic.Near(x.l, x.key, x.other)),
		"PrintForest":  pack(topic.PrintForest(x.l)),
		"ParseForest":  all(l, n, e),
		"CheckSkills":  all(topic.CheckSkills(x.l, x.skills)),
		"Learn":        pack(topic.Learn(x.l, x.papers, x.key)),
		"Spread":       pack(topic.Spread(x.l, x.skills, x.percent)),
		"Affinity":     pack(topic.Affinity(x.l, x.skills, x.wanted)),
		"Reasons":      pack(topic.Reasons(x.l, x.skills, x.wanted)),
		"CheckReaders": all(topic.CheckReaders(x.l, x.r)),
		"CheckBids":    all(topic.CheckBids(x.b)),
		"Worth":        pack(topic.Worth(x.f, x.number)),
		"Worths":       pack(topic.Worths(x.l, x.papers, x.r, x.b)),
		"Best":         pack(topic.Best(x.l, x.papers, x.r, x.b, x.key, x.number)),
		"Uncovered":    pack(topic.Uncovered(x.l, x.papers, x.r, x.percent)),
		"Lack":         pack(topic.Lack(x.l, x.papers, x.r, x.number)),
		"Odd":          pack(topic.Odd(x.l, x.papers, x.r, x.b, x.percent)),
		"Rings":        pack(topic.Rings(x.papers, x.b)),
		"Add":          pack(topic.Add(x.f, x.g)),
		"Compare":      pack(topic.Compare(x.f, x.g)),
	}
}

// odd is a number that is mostly small.
func (d *dice) odd(most int) int {
	if d.below(10) > 0 {
		return d.below(most)
	}
	l := []int{math.MinInt, -1, 0, most, api.MaxDen, math.MaxInt}
	return l[d.below(len(l))]
}

// inputs are some of which most are right.
func (d *dice) inputs(t *testing.T) inputs {
	x := inputs{fair: d.fair(t), number: d.odd(6), percent: d.odd(101)}
	known := append(topicKeys(x.l), "p1", "p2", "ann", "bo", "x", "")
	x.skills, x.wanted, x.key, x.other = d.skills(x.l, 5), d.some(topicKeys(x.l), 6), d.pick(known), d.pick(topicKeys(x.l))
	x.f, x.g = api.Fraction{Num: d.odd(4), Den: d.odd(5)}, api.Fraction{Num: d.odd(4), Den: d.odd(5)}
	for range d.below(4) {
		x.text += strings.Repeat(" ", d.below(3)) + d.pick(known) + "\n"
	}
	return x
}

// spoiled has one thing that is wrong, or may be.
func (x inputs) spoiled(d *dice) inputs {
	words := []string{"", "A", "\xff", "a b", x.key, x.other, strings.Repeat("z", 200_000)}
	switch d.below(9) {
	case 0:
		x.l[d.below(len(x.l))].Above = d.pick(append(words, x.other, x.other))
	case 1:
		x.l[d.below(len(x.l))].Key = d.pick(words)
	case 2:
		x.skills = append(x.skills, api.Skill{Topic: d.pick(words), Weight: d.odd(101)})
	case 3:
		x.wanted = append(x.wanted, d.pick(words))
	case 4:
		x.papers = append(x.papers, api.Paper{Id: "q", Track: "t", Title: "T", Authors: []string{"ann"}, Topics: []string{d.pick(words)}})
	case 5:
		x.r = append(x.r, api.Reader{Key: "zed", Skills: []api.Skill{{Topic: d.pick(words), Weight: d.odd(101)}}})
	case 6:
		x.b = append(x.b, api.Bid{Pair: api.Pair{Paper: "z", Person: d.pick(words)}, Level: d.odd(5)})
	case 7:
		x.text += d.pick(words) + d.pick([]string{"", "\n"})
	case 8:
		x.key, x.other = d.pick(words), d.pick(words)
	}
	return x
}

// memories are the arrays of all lists in a value, also what is behind their length.
func memories(v reflect.Value) [][2]uintptr {
	var l [][2]uintptr
	switch v.Kind() {
	case reflect.Interface:
		return memories(v.Elem())
	case reflect.Struct:
		for i := range v.NumField() {
			l = append(l, memories(v.Field(i))...)
		}
	case reflect.Slice:
		if v.Cap() > 0 {
			from := v.Pointer()
			l = append(l, [2]uintptr{from, from + uintptr(v.Cap())*v.Type().Elem().Size()})
		}
		for i := range v.Len() {
			l = append(l, memories(v.Index(i))...)
		}
	}
	return l
}

// whole is a value with its lists as long as their memory.
func whole(v reflect.Value) any {
	var l []any
	switch v.Kind() {
	case reflect.Struct:
		for i := range v.NumField() {
			l = append(l, whole(v.Field(i)))
		}
	case reflect.Slice:
		for i := range v.Cap() {
			l = append(l, whole(v.Slice(0, v.Cap()).Index(i)))
		}
	default:
		return fmt.Sprint(v)
	}
	return l
}

// roomy has lists with something behind their length.
func roomy[T any](l []T) []T { return slices.Grow(slices.Clone(l), 3)[:len(l)] }

func (x inputs) roomy() inputs {
	x.l, x.papers, x.r, x.b, x.skills, x.wanted = roomy(x.l), roomy(x.papers), roomy(x.r), roomy(x.b), roomy(x.skills), roomy(x.wanted)
	for i := range x.papers {
		x.papers[i].Authors, x.papers[i].Topics = roomy(x.papers[i].Authors), roomy(x.papers[i].Topics)
	}
	for i := range x.r {
		x.r[i].Skills = roomy(x.r[i].Skills)
	}
	return x
}

// Z1, Z2, Z7: nothing panics, arguments stay as they are, the same ones give the same results, and these are new memory, also with respect to each other.
func TestMemory(t *testing.T) {
	d := dice(29)
	for range 600 {
		x := d.inputs(t).roomy()
		if d.below(2) == 0 {
			x = x.spoiled(&d)
		}
		before := fmt.Sprint(whole(reflect.ValueOf(x)))
		results := x.results()
		is(t, fmt.Sprint(whole(reflect.ValueOf(x))) == before, true)
		given := memories(reflect.ValueOf(x))
		for name, r := range results {
			l := memories(reflect.ValueOf(r))[1:]
			for i, a := range l {
				for _, b := range slices.Concat(l[:i], given) {
					if a[0] < b[1] && b[0] < a[1] {
						t.Errorf("%s: memory of a result is there twice", name)
					}
				}
			}
		}
		is(t, show(x.results()), show(results))
	}
}

// Z3: with an error there is nothing else, but for the number of a line.
func TestZeroValues(t *testing.T) {
	d := dice(31)
	failed := map[string]bool{}
	for range 2000 {
		for name, r := range d.inputs(t).spoiled(&d).results() {
			e := r[len(r)-1]
			if e == api.OK {
				continue
			}
			failed[name] = true
			for i, v := range r[:len(r)-1] {
				v := reflect.ValueOf(v)
				empty := v.IsZero() || v.Kind() == reflect.Slice && v.Len() == 0
				if !empty && !(name == "ParseForest" && i == 1 && e == api.ErrSyntax) {
					t.Error(name, show(r))
				}
			}
		}
	}
	is(t, len(failed), len(inputs{}.results()))
}

// Z5: empty lists are as nil ones.
func TestEmptyLists(t *testing.T) {
	x := inputs{key: "a", number: 1, percent: 1, f: half(), g: half()}
	x.l, x.papers, x.r = topics("a"), []api.Paper{paper("p", "ann", "")}, []api.Reader{reader("ann")}
	y := x
	x.papers = []api.Paper{{Id: "p", Track: "main", Title: "On It", Authors: []string{"ann"}}}
	y.skills, y.wanted, y.b, y.r = []api.Skill{}, []string{}, []api.Bid{}, []api.Reader{{Key: "ann", Skills: []api.Skill{}}}
	is(t, show(x.results()), show(y.results()))
	y.l, y.papers, y.r = []api.Topic{}, []api.Paper{}, []api.Reader{}
	is(t, show(y.results()), show(inputs{key: "a", number: 1, percent: 1, f: half(), g: half()}.results()))
}

// Z1: any number of goroutines at once.
func TestAtOnce(t *testing.T) {
	d := dice(37)
	for range 20 {
		x := d.inputs(t)
		want := show(x.results())
		var group sync.WaitGroup
		for range 4 {
			group.Go(func() { is(t, show(x.results()), want) })
		}
		group.Wait()
	}
}

// greatest has as much as there can be.
func greatest() inputs {
	x := inputs{number: api.MaxReaders, percent: 1}
	x.l = manyTopics(api.MaxTopics)
	var best []api.Skill
	for i, t := range x.l {
		best = append(best, api.Skill{Topic: t.Key, Weight: 1 + i})
	}
	for i, id := range keys(api.MaxPapers) {
		x.papers = append(x.papers, api.Paper{Id: id, Track: "t", Title: "T", Authors: keys(api.MaxAuthors), Topics: topicKeys(x.l[i%90 : i%90+api.MaxWanted])})
	}
	for i, key := range keys(api.MaxReaders) {
		x.r = append(x.r, api.Reader{Key: key, Skills: best})
		for j := range api.MaxBids / api.MaxReaders {
			x.b = append(x.b, bid(x.papers[j].Id, x.r[i].Key, 1+(i+j)%4))
		}
	}
	slices.SortFunc(x.b, func(a, b api.Bid) int { return strings.Compare(a.Paper+" "+a.Person, b.Paper+" "+b.Person) })
	x.skills, x.wanted, x.key, x.other = best, x.papers[0].Topics, x.papers[0].Id, x.l[4].Key
	x.f, x.g = half(), half()
	return x
}

// Z1: the greatest arguments come to an end.
func TestGreatest(t *testing.T) {
	x := greatest()
	for name, r := range x.results() {
		if e := r[len(r)-1]; e != api.OK && name != "Worth" && name != "Lack" {
			t.Error(name, e)
		}
	}
	best, e := topic.Best(x.l, x.papers, x.r, x.b, x.key, api.MaxReaders)
	is(t, all(len(best), e), all(api.MaxReaders*3/4, api.OK))
	// One long ring.
	x.papers, x.b = nil, nil
	for i, id := range keys(api.MaxPapers) {
		var authors []string
		for j := range api.MaxAuthors {
			authors = append(authors, fmt.Sprintf("k%04d", i*api.MaxAuthors+j))
		}
		x.papers = append(x.papers, paper(id, strings.Join(authors, " "), ""))
		before := (i + api.MaxPapers - 1) % api.MaxPapers * api.MaxAuthors
		for j := range api.MaxAuthors / 2 {
			x.b = append(x.b, bid(id, fmt.Sprintf("k%04d", before+j), api.BidYes))
		}
	}
	rings, e := topic.Rings(x.papers, x.b)
	is(t, all(len(rings), len(rings[0]), e), all(1, api.MaxPapers*api.MaxAuthors/2, api.OK))
	x.b = x.b[10:]
	rings, e = topic.Rings(x.papers, x.b)
	is(t, all(len(rings), e), all(0, api.OK))
	// A chain of persons.
	x.papers, x.b = written(keys(api.MaxPapers)...), nil
	for i, p := range x.papers[1:] {
		x.b = append(x.b, bid(p.Id, x.papers[i].Authors[0], api.BidYes))
	}
	rings, e = topic.Rings(x.papers, x.b)
	is(t, all(len(rings), e), all(0, api.OK))
}
