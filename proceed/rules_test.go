package proceed_test

import (
	"fmt"
	"reflect"
	"slices"
	"strings"
	"sync"
	"testing"

	"rebuttal/api"
	"rebuttal/proceed"
)

// inputs is all that a function can be given.
type inputs struct {
	finals       []api.Final
	volume       api.Volume
	page         int
	paper, name  string
	decisions    []api.Decision
	errata       []api.Erratum
	poll         poll
	a, b         string
	votes, seats int
	claims       []api.Claim
	cents        int
	text         string
}

// results calls every function, and returns what each one returns.
func (x inputs) results() map[string][]any {
	return map[string][]any{
		"CheckFinals":  all(proceed.CheckFinals(x.finals)),
		"CheckVolume":  all(proceed.CheckVolume(x.volume, x.finals)),
		"Pages":        pack(proceed.Pages(x.volume, x.finals)),
		"At":           pack(proceed.At(x.volume, x.finals, x.page)),
		"Contents":     pack(proceed.Contents(x.volume, x.finals)),
		"SortName":     pack(proceed.SortName(x.name)),
		"Initials":     pack(proceed.Initials(x.name)),
		"Index":        pack(proceed.Index(x.volume, x.finals)),
		"Cite":         pack(proceed.Cite(x.volume, x.finals, x.paper)),
		"Missing":      pack(proceed.Missing(x.finals, x.decisions)),
		"CheckErrata":  all(proceed.CheckErrata(x.errata)),
		"Apply":        pack3(proceed.Apply(x.finals, x.errata)),
		"CheckBallots": all(proceed.CheckBallots(x.poll.nominees, x.poll.ballots)),
		"Quota":        pack(proceed.Quota(x.votes, x.seats)),
		"Elect":        pack(proceed.Elect(x.poll.nominees, x.seats, x.poll.ballots)),
		"Rounds":       pack(proceed.Rounds(x.poll.nominees, x.seats, x.poll.ballots)),
		"Beats":        pack(proceed.Beats(x.poll.nominees, x.poll.ballots, x.a, x.b)),
		"Winner":       pack3(proceed.Winner(x.poll.nominees, x.poll.ballots)),
		"CheckClaims":  all(proceed.CheckClaims(x.claims)),
		"Grants":       pack(proceed.Grants(x.claims, x.cents)),
		"Text":         pack(proceed.Text(x.finals)),
		"Read":         pack3(proceed.Read(x.text)),
	}
}

// inputs are some of which most are right.
func (d *dice) inputs(t *testing.T) inputs {
	l := d.finals(t)
	x := inputs{finals: l, volume: d.volume(t, l), page: 1 + d.below(30), paper: d.pick(somePapers), name: d.name(), errata: d.errata(l), poll: d.poll(t)}
	for _, paper := range d.some(somePapers, 2) {
		x.decisions = append(x.decisions, api.Decision{Paper: paper, Yes: d.below(2) == 0})
	}
	x.a, x.b = d.pick(x.poll.nominees), d.pick(x.poll.nominees)
	x.votes, x.seats, x.cents = d.odd(99), 1+d.below(3), d.odd(30)
	for _, person := range d.some(somePeople, 2) {
		least := d.below(9)
		x.claims = append(x.claims, api.Claim{Person: person, Least: least, Most: least + d.below(9), Points: d.below(9)})
	}
	x.text = plainText(l)
	return x
}

// spoiled has one thing that is wrong, or may be.
func (x inputs) spoiled(d *dice) inputs {
	words := []string{"", "A", "\xff", "a b", "p", "z", strings.Repeat("z", 200_000)}
	a, b := d.pick(words), d.pick(words)
	switch d.below(11) {
	case 0:
		x.finals = append(x.finals, api.Final{Paper: a, Title: b, Pages: d.odd(9), Credits: []api.Credit{{Key: d.pick(words), Name: d.pick(words)}}})
	case 1:
		x.volume.First = d.odd(api.MaxPages + 1)
	case 2:
		x.volume.Chapters = append(x.volume.Chapters, api.Chapter{Title: a, Papers: []string{b}})
	case 3:
		x.page, x.paper, x.name = d.odd(99), a, b
	case 4:
		x.decisions = append(x.decisions, api.Decision{Paper: a, Yes: true})
	case 5:
		x.errata = append(x.errata, api.Erratum{Paper: a, Field: d.odd(4), Key: d.pick(words), Old: b, New: d.pick(words)})
	case 6:
		x.poll.nominees = append(x.poll.nominees, a)
	case 7:
		x.poll.ballots = append(x.poll.ballots, api.Ballot{Many: d.odd(9), Ranks: []string{a, b}})
	case 8:
		x.a, x.b, x.seats, x.votes, x.cents = a, b, d.odd(5), d.odd(1002), d.odd(99)
	case 9:
		x.claims = append(x.claims, api.Claim{Person: a, Least: d.odd(9), Most: d.odd(9), Points: d.odd(9)})
	case 10:
		x.text += a + d.pick([]string{"", "\n"})
	}
	return x
}

// memories are the arrays of all lists in a value, also what is behind their length.
func memories(v reflect.Value) [][2]uintptr {
	var l [][2]uintptr
	switch v.Kind() {
	case reflect.Interface:
		return memories(v.Elem())
	case reflect.Struct:
		for i := range v.NumField() {
			l = append(l, memories(v.Field(i))...)
		}
	case reflect.Slice:
		if v.Cap() > 0 {
			from := v.Pointer()
			l = append(l, [2]uintptr{from, from + uintptr(v.Cap())*v.Type().Elem().Size()})
		}
		for i := range v.Len() {
			l = append(l, memories(v.Index(i))...)
		}
	}
	return l
}

// whole is a value with its lists as long as their memory.
func whole(v reflect.Value) any {
	var l []any
	switch v.Kind() {
	case reflect.Struct:
		for i := range v.NumField() {
			l = append(l, whole(v.Field(i)))
		}
	case reflect.Slice:
		for i := range v.Cap() {
			l = append(l, whole(v.Slice(0, v.Cap()).Index(i)))
		}
	default:
		return fmt.Sprint(v)
	}
	return l
}

// roomy has lists with something behind their length.
func roomy[T any](l []T) []T { return slices.Grow(slices.Clone(l), 3)[:len(l)] }

func (x inputs) roomy() inputs {
	x.finals, x.decisions, x.errata, x.claims = roomy(x.finals), roomy(x.decisions), roomy(x.errata), roomy(x.claims)
	x.volume.Chapters = roomy(x.volume.Chapters)
	x.poll = poll{roomy(x.poll.nominees), roomy(x.poll.ballots)}
	for i := range x.finals {
		x.finals[i].Credits = roomy(x.finals[i].Credits)
	}
	for i := range x.volume.Chapters {
		x.volume.Chapters[i].Papers = roomy(x.volume.Chapters[i].Papers)
	}
	for i := range x.poll.ballots {
		x.poll.ballots[i].Ranks = roomy(x.poll.ballots[i].Ranks)
	}
	return x
}

// Z1, Z2, Z7: nothing panics, arguments stay as they are, the same ones give the same results, and these are new memory, also with respect to each other.
func TestMemory(t *testing.T) {
	d := dice(47)
	for range 400 {
		x := d.inputs(t)
		if d.below(2) == 0 {
			x = x.spoiled(&d)
		}
		x = x.roomy()
		before := fmt.Sprint(whole(reflect.ValueOf(x)))
		results := x.results()
		is(t, fmt.Sprint(whole(reflect.ValueOf(x))) == before, true)
		given := memories(reflect.ValueOf(x))
		for name, r := range results {
			l := memories(reflect.ValueOf(r))[1:]
			for i, a := range l {
				for _, b := range slices.Concat(l[:i], given) {
					if a[0] < b[1] && b[0] < a[1] {
						t.Errorf("%s: memory of a result is there twice", name)
					}
				}
			}
		}
		is(t, show(x.results()), show(results))
	}
}

// Z3: with an error there is nothing else, but for the number of a line; nor is there a winner if there is none.
func TestZeroValues(t *testing.T) {
	d := dice(53)
	failed, right := map[string]bool{}, map[string]bool{}
	for range 1500 {
		for name, r := range d.inputs(t).spoiled(&d).results() {
			e := r[len(r)-1]
			if name == "Winner" && r[1] == false {
				is(t, r[0], "")
			}
			if e == api.OK {
				right[name] = true
				continue
			}
			failed[name] = true
			for i, v := range r[:len(r)-1] {
				v := reflect.ValueOf(v)
				empty := v.IsZero() || v.Kind() == reflect.Slice && v.Len() == 0
				line := name == "Read" && i == 1 && e == api.ErrSyntax
				if !empty && !line {
					t.Error(name, show(r))
				}
			}
		}
	}
	is(t, all(len(failed), len(right)), all(22, 22))
}

// Z5: empty lists are as nil ones.
func TestEmptyLists(t *testing.T) {
	x := inputs{paper: "p", name: "A", seats: 1}
	y := x
	y.finals, y.decisions, y.errata, y.claims = []api.Final{}, []api.Decision{}, []api.Erratum{}, []api.Claim{}
	y.volume.Chapters, y.poll = []api.Chapter{}, poll{[]string{}, []api.Ballot{}}
	is(t, show(y.results()), show(x.results()))
	for _, x := range []*inputs{&x, &y} {
		x.finals, x.volume = finals("p 1 T a=A"), api.Volume{First: 1, Chapters: chapters("T p", "U")}
		x.poll = poll{words("a b"), ballots("1", "2 a")}
	}
	x.volume.Chapters[1].Papers, x.poll.ballots[0].Ranks = nil, nil
	y.volume.Chapters[1].Papers, y.poll.ballots[0].Ranks = []string{}, []string{}
	is(t, show(y.results()), show(x.results()))
	x.finals[0].Credits, y.finals[0].Credits = nil, []api.Credit{}
	is(t, show(y.results()), show(x.results()))
	is(t, proceed.CheckFinals(y.finals), api.ErrForm)
}

// Z1: any number of goroutines at once.
func TestAtOnce(t *testing.T) {
	d := dice(59)
	for range 20 {
		x := d.inputs(t)
		want := show(x.results())
		var group sync.WaitGroup
		for range 4 {
			group.Go(func() { is(t, show(x.results()), want) })
		}
		group.Wait()
	}
}

// greatest has as much as there can be.
func greatest() inputs {
	x := inputs{volume: api.Volume{First: 1, Right: true}, page: 1, paper: "k0000", name: strings.Repeat("n ", 49) + "n", a: "k0000", b: "k0007", votes: api.MaxVoters, seats: api.MaxSeats, cents: 20 * api.MaxCents}
	for i, key := range keys(api.MaxPapers) {
		f := api.Final{Paper: key, Title: strings.Repeat("t", api.MaxTitle), Pages: 12}
		for j, key := range keys(api.MaxAuthors) {
			f.Credits = append(f.Credits, api.Credit{Key: key, Name: fmt.Sprintf("%d %d %s", i, j, strings.Repeat("de ", 30)+"n")})
		}
		x.finals = append(x.finals, f)
		x.decisions = append(x.decisions, api.Decision{Paper: key, Yes: true})
	}
	for i := range api.MaxParts {
		x.volume.Chapters = append(x.volume.Chapters, api.Chapter{Title: x.finals[0].Title, Papers: keys(api.MaxPapers)[i*10 : i*10+10]})
	}
	for i := range api.MaxErrata {
		x.errata = append(x.errata, api.Erratum{Paper: keys(api.MaxPapers)[i], Field: api.FieldTitle, Old: x.finals[0].Title, New: "T"})
	}
	x.poll.nominees = keys(api.MaxNominee)
	for range api.MaxBallot {
		x.poll.ballots = append(x.poll.ballots, api.Ballot{Many: 3, Ranks: keys(api.MaxNominee)})
	}
	for i, key := range keys(api.MaxClaims) {
		x.claims = append(x.claims, api.Claim{Person: key, Least: i, Most: api.MaxCents, Points: 1_000_000 - i})
	}
	return x
}

// Z1: the greatest arguments come to an end.
func TestGreatest(t *testing.T) {
	for name, r := range greatest().results() {
		want := api.OK
		if name == "Text" {
			want = api.ErrLarge
		}
		if e := r[len(r)-1]; e != want {
			t.Error(name, e)
		}
	}
	// Lists that are longer than they can be.
	long := slices.Repeat([]string{"p"}, 200_000)
	text := strings.Repeat("p", 200_000)
	l := finals("p 1 T a=A")
	is(t, proceed.CheckFinals(slices.Repeat(l, 200_000)), api.ErrLarge)
	is(t, pack(proceed.Text(slices.Repeat(l, 200_000))), all("", api.ErrLarge))
	is(t, pack(proceed.Text(slices.Repeat([]api.Final{{Title: text}}, 200_000))), all("", api.ErrLarge))
	is(t, proceed.CheckFinals([]api.Final{{Paper: "p", Title: "T", Pages: 1, Credits: make([]api.Credit, 200_000)}}), api.ErrLarge)
	is(t, pack(proceed.Text([]api.Final{{Paper: "p", Title: "T", Pages: 1, Credits: make([]api.Credit, 200_000)}})), all("", api.ErrLarge))
	is(t, proceed.CheckVolume(api.Volume{First: 1, Chapters: []api.Chapter{{Title: "T", Papers: long}}}, l), api.ErrTwice)
	is(t, proceed.CheckVolume(api.Volume{First: 1, Chapters: make([]api.Chapter, 200_000)}, l), api.ErrLarge)
	is(t, proceed.CheckErrata(make([]api.Erratum, 200_000)), api.ErrLarge)
	is(t, proceed.CheckBallots(long, nil), api.ErrLarge)
	is(t, proceed.CheckBallots(words("p"), make([]api.Ballot, 200_000)), api.ErrLarge)
	is(t, proceed.CheckBallots(words("p"), []api.Ballot{{Many: 1, Ranks: long}}), api.ErrTwice)
	is(t, proceed.CheckClaims(make([]api.Claim, 200_000)), api.ErrLarge)
}
