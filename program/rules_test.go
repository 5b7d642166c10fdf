package program_test

import (
	"fmt"
	"maps"
	"reflect"
	"slices"
	"strings"
	"sync"
	"testing"

	"rebuttal/api"
	"rebuttal/program"
)

// inputs is all that a function can be given.
type inputs struct {
	grid          api.Grid
	sessions      []api.Session
	person, paper string
	rounds        int
	chairs        []api.Chair
	text          string
}

// results calls every function of grids, and returns what each one returns.
func (x inputs) results() map[string][]any {
	r := map[string][]any{
		"CheckGrid": all(program.CheckGrid(x.grid)),
		"Best":      pack3(program.Best(x.grid)),
		"Read":      pack3(program.Read(x.grid, x.text)),
	}
	maps.Copy(r, x.ofProgrammes())
	return r
}

// ofProgrammes are the results of all functions with a programme.
func (x inputs) ofProgrammes() map[string][]any {
	return map[string][]any{
		"Check":   all(program.Check(x.grid, x.sessions)),
		"Missing": pack(program.Missing(x.grid, x.sessions)),
		"Times":   pack(program.Times(x.grid, x.sessions)),
		"Busy":    pack(program.Busy(x.grid, x.sessions, x.person)),
		"Beside":  pack(program.Beside(x.grid, x.sessions, x.paper)),
		"Clashes": pack(program.Clashes(x.grid, x.sessions)),
		"Mixed":   pack(program.Mixed(x.grid, x.sessions)),
		"Crowd":   pack(program.Crowd(x.grid, x.sessions)),
		"Cost":    pack(program.Cost(x.grid, x.sessions)),
		"Agenda":  pack3(program.Agenda(x.grid, x.sessions, x.person)),
		"Improve": pack3(program.Improve(x.grid, x.sessions, x.rounds)),
		"Chairs":  pack(program.Chairs(x.grid, x.sessions, x.chairs)),
		"Print":   pack(program.Print(x.grid, x.sessions)),
	}
}

// inputs are some of which most are right.
func (d *dice) inputs(t *testing.T) inputs {
	g := d.grid(t, 4, 2, 2)
	x := inputs{grid: g, sessions: d.programme(t, g), person: d.pick(somePeople), paper: d.pick(somePapers), rounds: d.odd(3)}
	for _, person := range d.some(somePeople, 2) {
		x.chairs = append(x.chairs, api.Chair{Person: person, Topics: d.some(someTopics, 2)})
	}
	x.text = plainText(x.sessions)
	return x
}

// spoiled has one thing that is wrong, or may be.
func (x inputs) spoiled(d *dice) inputs {
	words := []string{"", "A", "\xff", "a b", "p", "z", strings.Repeat("z", 200_000)}
	a, b := d.pick(words), d.pick(words)
	switch d.below(10) {
	case 0:
		x.grid.Rooms = append(x.grid.Rooms, api.Room{Key: a, Seats: d.odd(9)})
	case 1:
		x.grid.Slots = append(x.grid.Slots, api.Slot{Key: a, From: d.odd(9), Long: d.odd(9)})
	case 2:
		x.grid.Talks = append(x.grid.Talks, api.Talk{Paper: a, Speakers: []string{b}, Topics: []string{d.pick(words)}, Long: d.odd(9)})
	case 3:
		x.grid.Wishes = append(x.grid.Wishes, api.Wish{Person: a, Papers: []string{b}})
	case 4:
		x.grid.Bans = append(x.grid.Bans, api.Ban{Person: a, Slot: b})
	case 5:
		x.sessions = append(x.sessions, api.Session{Slot: a, Room: b, Papers: []string{d.pick(words)}})
	case 6:
		x.sessions = d.spoil(x.sessions)
	case 7:
		x.person, x.paper, x.rounds = a, b, d.odd(200)
	case 8:
		x.chairs = append(x.chairs, api.Chair{Person: a, Topics: []string{b}})
	case 9:
		x.text += a + d.pick([]string{"", "\n"})
	}
	return x
}

// memories are the arrays of all lists in a value, also what is behind their length.
func memories(v reflect.Value) [][2]uintptr {
	var l [][2]uintptr
	switch v.Kind() {
	case reflect.Interface:
		return memories(v.Elem())
	case reflect.Struct:
		for i := range v.NumField() {
			l = append(l, memories(v.Field(i))...)
		}
	case reflect.Slice:
		if v.Cap() > 0 {
			from := v.Pointer()
			l = append(l, [2]uintptr{from, from + uintptr(v.Cap())*v.Type().Elem().Size()})
		}
		for i := range v.Len() {
			l = append(l, memories(v.Index(i))...)
		}
	}
	return l
}

// whole is a value with its lists as long as their memory.
func whole(v reflect.Value) any {
	var l []any
	switch v.Kind() {
	case reflect.Struct:
		for i := range v.NumField() {
			l = append(l, whole(v.Field(i)))
		}
	case reflect.Slice:
		for i := range v.Cap() {
			l = append(l, whole(v.Slice(0, v.Cap()).Index(i)))
		}
	default:
		return fmt.Sprint(v)
	}
	return l
}

// roomy has lists with something behind their length.
func roomy[T any](l []T) []T { return slices.Grow(slices.Clone(l), 3)[:len(l)] }

func (x inputs) roomy() inputs {
	x.grid = api.Grid{Rooms: roomy(x.grid.Rooms), Slots: roomy(x.grid.Slots), Talks: roomy(x.grid.Talks), Wishes: roomy(x.grid.Wishes), Bans: roomy(x.grid.Bans)}
	x.sessions, x.chairs = roomy(x.sessions), roomy(x.chairs)
	for i := range x.grid.Talks {
		talk := &x.grid.Talks[i]
		talk.Speakers, talk.Topics = roomy(talk.Speakers), roomy(talk.Topics)
	}
	for i := range x.grid.Wishes {
		x.grid.Wishes[i].Papers = roomy(x.grid.Wishes[i].Papers)
	}
	for i := range x.sessions {
		x.sessions[i].Papers = roomy(x.sessions[i].Papers)
	}
	for i := range x.chairs {
		x.chairs[i].Topics = roomy(x.chairs[i].Topics)
	}
	return x
}

// Z1, Z2, Z7: nothing panics, arguments stay as they are, the same ones give the same results, and these are new memory, also with respect to each other.
func TestMemory(t *testing.T) {
	d := dice(41)
	for range 400 {
		x := d.inputs(t)
		if d.below(2) == 0 {
			x = x.spoiled(&d)
		}
		x = x.roomy()
		before := fmt.Sprint(whole(reflect.ValueOf(x)))
		results := x.results()
		is(t, fmt.Sprint(whole(reflect.ValueOf(x))) == before, true)
		given := memories(reflect.ValueOf(x))
		for name, r := range results {
			l := memories(reflect.ValueOf(r))[1:]
			for i, a := range l {
				for _, b := range slices.Concat(l[:i], given) {
					if a[0] < b[1] && b[0] < a[1] {
						t.Errorf("%s: memory of a result is there twice", name)
					}
				}
			}
		}
		is(t, show(x.results()), show(results))
	}
}

// Z3: with an error there is nothing else, but for the number of a line.
func TestZeroValues(t *testing.T) {
	d := dice(43)
	failed, right := map[string]bool{}, map[string]bool{}
	for range 1500 {
		for name, r := range d.inputs(t).spoiled(&d).results() {
			e := r[len(r)-1]
			if e == api.OK {
				right[name] = true
				continue
			}
			failed[name] = true
			for i, v := range r[:len(r)-1] {
				v := reflect.ValueOf(v)
				empty := v.IsZero() || v.Kind() == reflect.Slice && v.Len() == 0
				line := name == "Read" && i == 1 && e == api.ErrSyntax
				if !empty && !line {
					t.Error(name, show(r))
				}
			}
		}
	}
	is(t, all(len(failed), len(right)), all(16, 16))
}

// Z5: empty lists are as nil ones.
func TestEmptyLists(t *testing.T) {
	x := inputs{person: "z", paper: "p"}
	y := inputs{person: "z", paper: "p", sessions: []api.Session{}, chairs: []api.Chair{}}
	y.grid = api.Grid{Rooms: []api.Room{}, Slots: []api.Slot{}, Talks: []api.Talk{}, Wishes: []api.Wish{}, Bans: []api.Ban{}}
	is(t, show(y.results()), show(x.results()))
	for _, x := range []*inputs{&x, &y} {
		x.grid.Rooms, x.grid.Slots, x.grid.Talks = rooms("a 1"), slots("i 0 9"), talks("p 1 y -", "q 1 z -")
		x.grid.Wishes, x.sessions, x.chairs = wishes("z"), sessions("i a p q"), chairs("kim")
	}
	y.grid.Talks[0].Topics, y.grid.Wishes[0].Papers, y.chairs[0].Topics = []string{}, []string{}, []string{}
	is(t, show(y.results()), show(x.results()))
	x.grid.Talks[0].Speakers, x.sessions[0].Papers = nil, nil
	y.grid.Talks[0].Speakers, y.sessions[0].Papers = []string{}, []string{}
	is(t, show(y.results()), show(x.results()))
	is(t, program.CheckGrid(y.grid), api.ErrNone)
}

// Z1: any number of goroutines at once.
func TestAtOnce(t *testing.T) {
	d := dice(47)
	for range 20 {
		x := d.inputs(t)
		want := show(x.results())
		var group sync.WaitGroup
		for range 4 {
			group.Go(func() { is(t, show(x.results()), want) })
		}
		group.Wait()
	}
}

// Z1: the greatest arguments come to an end.
func TestGreatest(t *testing.T) {
	x := inputs{grid: greatest(), sessions: spread(), person: "k0000", paper: "k0000", rounds: 100, text: plainText(spread())}
	for _, key := range keys(api.MaxChairs) {
		x.chairs = append(x.chairs, api.Chair{Person: key, Topics: keys(api.MaxWanted)})
	}
	want := map[string]api.Errno{"Best": api.ErrLarge, "Improve": api.ErrLarge, "Agenda": api.ErrLarge}
	for name, r := range x.results() {
		if e := r[len(r)-1]; e != want[name] {
			t.Error(name, e)
		}
	}
	// All talks in one session, and everybody wishes all of them.
	x.sessions = []api.Session{{Slot: "k0000", Room: "k0000", Papers: keys(api.MaxTalks)}}
	x.text = plainText(x.sessions)
	delete(want, "Agenda")
	for name, r := range x.results() {
		if e := r[len(r)-1]; e != want[name] {
			t.Error(name, e)
		}
	}
	// Lists that are longer than they can be.
	long := slices.Repeat([]string{"p"}, 200_000)
	is(t, program.CheckGrid(api.Grid{Talks: []api.Talk{{Paper: "p", Speakers: long, Long: 1}}}), api.ErrLarge)
	is(t, program.CheckGrid(api.Grid{Talks: []api.Talk{{Paper: "p", Speakers: long[:1], Topics: long, Long: 1}}}), api.ErrLarge)
	is(t, program.CheckGrid(api.Grid{Talks: talks("p 1 z -"), Wishes: []api.Wish{{Person: "z", Papers: long}}}), api.ErrOrder)
	is(t, program.Check(example(), []api.Session{{Slot: "am", Room: "big", Papers: long}}), api.ErrTwice)
	is(t, program.Check(example(), make([]api.Session, 200_000)), api.ErrLarge)
}
