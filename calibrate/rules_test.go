package calibrate_test

import (
	"fmt"
	"math"
	"reflect"
	"slices"
	"strings"
	"sync"
	"testing"

	"rebuttal/api"
	"rebuttal/calibrate"
)

// inputs is all that a function can be given: papers or persons a and b.
type inputs struct {
	l         []api.Mark
	a, b      string
	n         int
	order     []string
	low, high api.Fraction
}

// results calls every function, and returns what each one returns.
func (x inputs) results() map[string][]any {
	r := x.ofMarks()
	r["Compare"] = pack(calibrate.Compare(x.low, x.high))
	return r
}

// ofMarks are the results of all functions with marks.
func (x inputs) ofMarks() map[string][]any {
	return map[string][]any{
		"CheckMarks": all(calibrate.CheckMarks(x.l)),
		"PapersOf":   pack(calibrate.PapersOf(x.l)),
		"PeopleOf":   pack(calibrate.PeopleOf(x.l)),
		"Mean":       pack(calibrate.Mean(x.l, x.a)),
		"Median":     pack(calibrate.Median(x.l, x.a)),
		"Spread":     pack(calibrate.Spread(x.l, x.a)),
		"Agreement":  pack(calibrate.Agreement(x.l)),
		"Kappa":      pack(calibrate.Kappa(x.l, x.a, x.b)),
		"Strict":     pack(calibrate.Strict(x.l)),
		"Outliers":   pack(calibrate.Outliers(x.l, x.n)),
		"Rank":       pack(calibrate.Rank(x.l, x.a, x.b)),
		"Shift":      pack(calibrate.Shift(x.l, x.a, x.n)),
		"Parts":      pack(calibrate.Parts(x.l)),
		"Unbiased":   pack3(calibrate.Unbiased(x.l)),
		"Balanced":   pack3(calibrate.Balanced(x.l, x.n)),
		"Wins":       pack(calibrate.Wins(x.l, x.a, x.b)),
		"Points":     pack(calibrate.Points(x.l)),
		"Order":      pack(calibrate.Order(x.l, x.n)),
		"Strongest":  pack(calibrate.Strongest(x.l)),
		"Against":    pack(calibrate.Against(x.l, x.order)),
		"Least":      pack3(calibrate.Least(x.l)),
		"Range":      pack3(calibrate.Range(x.l, x.a, x.n)),
	}
}

// odd is a number that is mostly small.
func (d *dice) odd(most int) int {
	if d.below(10) > 0 {
		return d.below(most)
	}
	l := []int{math.MinInt, -1, 0, most, api.MaxDen, math.MaxInt}
	return l[d.below(len(l))]
}

// inputs are some of which most are right.
func (d *dice) inputs(t *testing.T) inputs {
	l := d.marks(t, 6, 6)
	x := inputs{l: l, a: d.pick(keys(6)), b: d.pick(keys(6)), n: d.odd(6), order: d.shuffled(papersOf(l))}
	x.low, x.high = fr(d.odd(9)-4, 1), fr(1, d.odd(9)+1)
	return x
}

// spoiled has one thing that is wrong, or may be.
func (x inputs) spoiled(d *dice) inputs {
	words := []string{"", "A", "\xff", "a b", "k0009", "z", strings.Repeat("z", 200_000)}
	switch d.below(6) {
	case 0:
		x.l = append(x.l, mark(d.pick(words), d.pick(words), d.odd(12)))
	case 1:
		x.l = append(x.l, grid(d.below(11)+1, d.below(14)+1)...)
	case 2:
		x.a, x.b = d.pick(words), d.pick(words)
	case 3:
		x.order = append(x.order, d.pick(words))
	case 4:
		x.n = d.odd(99)
	case 5:
		x.low, x.high = fr(d.odd(9), d.odd(3)), fr(d.odd(9), d.odd(9))
	}
	return x
}

// memories are the arrays of all lists in a value, also what is behind their length.
func memories(v reflect.Value) [][2]uintptr {
	var l [][2]uintptr
	switch v.Kind() {
	case reflect.Interface:
		return memories(v.Elem())
	case reflect.Struct:
		for i := range v.NumField() {
			l = append(l, memories(v.Field(i))...)
		}
	case reflect.Slice:
		if v.Cap() > 0 {
			from := v.Pointer()
			l = append(l, [2]uintptr{from, from + uintptr(v.Cap())*v.Type().Elem().Size()})
		}
		for i := range v.Len() {
			l = append(l, memories(v.Index(i))...)
		}
	}
	return l
}

// roomy has lists with something behind their length.
func roomy[T any](l []T) []T { return slices.Grow(slices.Clone(l), 3)[:len(l)] }

// unseen is all that the memory of a list has.
func unseen[T any](l []T) string { return fmt.Sprint(l[:cap(l)]) }

// Z1, Z2, Z7: nothing panics, arguments stay as they are, the same ones give the same results, and these are new memory, also with respect to each other.
func TestMemory(t *testing.T) {
	d := dice(79)
	for range 800 {
		x := d.inputs(t)
		if d.below(2) == 0 {
			x = x.spoiled(&d)
		}
		x.l, x.order = roomy(x.l), roomy(x.order)
		before := unseen(x.l) + unseen(x.order)
		results := x.results()
		is(t, unseen(x.l)+unseen(x.order) == before, true)
		given := memories(reflect.ValueOf(x))
		for name, r := range results {
			l := memories(reflect.ValueOf(r))[1:]
			for i, a := range l {
				for _, b := range slices.Concat(l[:i], given) {
					if a[0] < b[1] && b[0] < a[1] {
						t.Errorf("%s: memory of a result is there twice", name)
					}
				}
			}
		}
		is(t, show(x.results()), show(results))
	}
}

// Z3: with an error there is nothing else.
func TestZeroValues(t *testing.T) {
	d := dice(83)
	failed, right := map[string]bool{}, map[string]bool{}
	for range 3000 {
		for name, r := range d.inputs(t).spoiled(&d).results() {
			if r[len(r)-1] == api.OK {
				right[name] = true
				continue
			}
			failed[name] = true
			for _, v := range r[:len(r)-1] {
				v := reflect.ValueOf(v)
				if !v.IsZero() && (v.Kind() != reflect.Slice || v.Len() > 0) {
					t.Error(name, show(r))
				}
			}
		}
	}
	is(t, all(len(failed), len(right)), all(23, 23))
}

// Z5: empty lists are as nil ones.
func TestEmptyLists(t *testing.T) {
	x := inputs{n: 1, a: "a", b: "b"}
	y := inputs{n: 1, a: "a", b: "b", l: []api.Mark{}, order: []string{}}
	is(t, show(y.results()), show(x.results()))
}

// Z1: any number of goroutines at once.
func TestAtOnce(t *testing.T) {
	d := dice(89)
	for range 20 {
		x := d.inputs(t)
		want := show(x.results())
		var group sync.WaitGroup
		for range 4 {
			group.Go(func() { is(t, show(x.results()), want) })
		}
		group.Wait()
	}
}

// star is as many marks as there can be, of many papers by one person, and of one of these by others.
func star(papers int) []api.Mark {
	var l []api.Mark
	for i, paper := range keys(papers) {
		l = append(l, mark(paper, "a", i*i%11))
		for range api.MaxPerPaper - 1 {
			if len(l) < api.MaxMarks-(papers-1-i) {
				l = append(l, mark(paper, fmt.Sprintf("b%04d", len(l)), i*7%11))
			}
		}
	}
	return l
}

// Z1: the greatest arguments come to an end.
func TestGreatest(t *testing.T) {
	for _, l := range [][]api.Mark{
		grid(api.MaxMarks/api.MaxPerPaper, api.MaxPerPaper),
		grid(api.MaxMarks, 1),
		star(api.MaxMarks / 3 * 2),
		star(api.MaxMarks / api.MaxPerPaper),
	} {
		is(t, len(l), api.MaxMarks)
		x := inputs{l: l, a: "k0001", b: "k0002", n: 1, order: papersOf(l)}
		want := map[string]api.Errno{"Unbiased": api.ErrLarge, "Strongest": api.ErrLarge, "Least": api.ErrLarge}
		for name, r := range x.ofMarks() {
			e := r[len(r)-1]
			if e != want[name] && e != api.ErrNone && name != "Shift" {
				t.Error(name, e)
			}
		}
		for how := api.RankMean; how <= api.RankBalanced; how++ {
			best, worst, e := calibrate.Range(l, "k0001", how)
			is(t, all(e, 1 <= best, best <= worst, worst <= len(papersOf(l))), all(api.OK, true, true, true))
		}
	}
}
