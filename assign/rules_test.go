package assign_test

import (
	"fmt"
	"math"
	"reflect"
	"slices"
	"strings"
	"sync"
	"testing"

	"rebuttal/api"
	"rebuttal/assign"
)

// odd is a number that is mostly small.
func (d *dice) odd(most int) int {
	if d.below(10) > 0 {
		return d.below(most)
	}
	l := []int{math.MinInt, -1, 0, most, maxPrice, math.MaxInt}
	return l[d.below(len(l))]
}

// inputs are some of which most are right.
func (d *dice) inputs(t *testing.T) inputs {
	ids, names := strings.Fields("p0 p1 p2 p3"), strings.Fields("a b c d e")
	x := inputs{task: d.task(t, 4, 5), steps: d.odd(4)}
	x.l, x.other = d.pairs(ids, names, 2), d.pairs(ids, names, 2)
	x.bids = d.pairs(ids, names, 3)
	if best, e := assign.Best(x.task); e == api.OK && d.below(4) > 0 {
		x.l = best
		x.prices, _ = assign.Prove(x.task)
	}
	for _, n := range x.task.Loads {
		if d.below(4) == 0 {
			x.gone = append(x.gone, n.Person)
		}
	}
	if trades, _ := assign.Trades(x.task, d.any(x.task)); len(trades) > 0 && d.below(2) == 0 {
		x.l, x.trade = d.any(x.task), trades[0]
	}
	for _, id := range ids {
		x.papers = append(x.papers, api.Paper{Id: id, Authors: d.some(names, 2)})
	}
	for _, p := range x.l {
		x.text += p.Paper + " " + p.Person + "\n"
	}
	return x
}

// spoiled has one thing that is wrong, or may be.
func (x inputs) spoiled(d *dice) inputs {
	words := []string{"", "A", "\xff", "a b", "a", "p0", strings.Repeat("z", 200_000)}
	p := pair(d.pick(words), d.pick(words))
	switch d.below(13) {
	case 0:
		x.task.Needs = append(x.task.Needs, api.Need{Paper: d.pick(words), Readers: d.odd(5)})
	case 1:
		x.task.Loads = append(x.task.Loads, api.Load{Person: d.pick(words), Least: d.odd(2), Most: d.odd(9)})
	case 2:
		x.task.Worths = append(x.task.Worths, api.Worth{Pair: p, Worth: d.odd(9)})
	case 3:
		x.task.Barred = append(x.task.Barred, p)
	case 4:
		x.task.Locked = append(x.task.Locked, p)
	case 5:
		x.l = append(x.l, p)
	case 6:
		x.other = append(x.other, p)
	case 7:
		x.prices.Papers = append(x.prices.Papers, d.odd(100))
	case 8:
		x.gone = append(x.gone, d.pick(words))
	case 9:
		x.trade = api.Trade{First: p, Second: pair(d.pick(words), "b"), Gain: d.odd(5)}
	case 10:
		x.papers = append(x.papers, api.Paper{Id: d.pick(words), Authors: []string{d.pick(words)}})
	case 11:
		x.bids = append(x.bids, p)
	case 12:
		x.text += d.pick(words) + d.pick([]string{"", "\n"})
	}
	return x
}

// memories are the arrays of all lists in a value, also what is behind their length.
func memories(v reflect.Value) [][2]uintptr {
	var l [][2]uintptr
	switch v.Kind() {
	case reflect.Interface:
		return memories(v.Elem())
	case reflect.Struct:
		for i := range v.NumField() {
			l = append(l, memories(v.Field(i))...)
		}
	case reflect.Slice:
		if v.Cap() > 0 {
			from := v.Pointer()
			l = append(l, [2]uintptr{from, from + uintptr(v.Cap())*v.Type().Elem().Size()})
		}
		for i := range v.Len() {
			l = append(l, memories(v.Index(i))...)
		}
	}
	return l
}

// whole is a value with its lists as long as their memory.
func whole(v reflect.Value) any {
	var l []any
	switch v.Kind() {
	case reflect.Struct:
		for i := range v.NumField() {
			l = append(l, whole(v.Field(i)))
		}
	case reflect.Slice:
		for i := range v.Cap() {
			l = append(l, whole(v.Slice(0, v.Cap()).Index(i)))
		}
	default:
		return fmt.Sprint(v)
	}
	return l
}

// roomy has lists with something behind their length.
func roomy[T any](l []T) []T { return slices.Grow(slices.Clone(l), 3)[:len(l)] }

func (x inputs) roomy() inputs {
	x.task.Needs, x.task.Loads, x.task.Worths = roomy(x.task.Needs), roomy(x.task.Loads), roomy(x.task.Worths)
	x.task.Barred, x.task.Locked = roomy(x.task.Barred), roomy(x.task.Locked)
	x.l, x.other, x.gone, x.bids, x.papers = roomy(x.l), roomy(x.other), roomy(x.gone), roomy(x.bids), roomy(x.papers)
	x.prices.Papers, x.prices.People = roomy(x.prices.Papers), roomy(x.prices.People)
	for i := range x.papers {
		x.papers[i].Authors = roomy(x.papers[i].Authors)
	}
	return x
}

// Z1, Z2, Z7: nothing panics, arguments stay as they are, the same ones give the same results, and these are new memory, also with respect to each other.
func TestMemory(t *testing.T) {
	d := dice(41)
	for range 800 {
		x := d.inputs(t).roomy()
		if d.below(2) == 0 {
			x = x.spoiled(&d)
		}
		before := fmt.Sprint(whole(reflect.ValueOf(x)))
		results := x.results()
		is(t, fmt.Sprint(whole(reflect.ValueOf(x))) == before, true)
		given := memories(reflect.ValueOf(x))
		for name, r := range results {
			l := memories(reflect.ValueOf(r))[1:]
			for i, a := range l {
				for _, b := range slices.Concat(l[:i], given) {
					if a[0] < b[1] && b[0] < a[1] {
						t.Errorf("%s: memory of a result is there twice", name)
					}
				}
			}
		}
		is(t, show(x.results()), show(results))
	}
}

// Z3: with an error there is nothing else, but for the number of a line.
func TestZeroValues(t *testing.T) {
	d := dice(43)
	failed, right := map[string]bool{}, map[string]bool{}
	for range 3000 {
		for name, r := range d.inputs(t).spoiled(&d).results() {
			e := r[len(r)-1]
			if e == api.OK {
				right[name] = true
				continue
			}
			failed[name] = true
			for i, v := range r[:len(r)-1] {
				v := reflect.ValueOf(v)
				empty := v.IsZero() || v.Kind() == reflect.Slice && v.Len() == 0
				if !empty && !(name == "Read" && i == 1 && e == api.ErrSyntax) {
					t.Error(name, show(r))
				}
			}
		}
	}
	is(t, all(len(failed), len(right)), all(20, 20))
}

// Z5: empty lists are as nil ones.
func TestEmptyLists(t *testing.T) {
	empty := inputs{
		task:   api.Task{Needs: []api.Need{}, Loads: []api.Load{}, Worths: []api.Worth{}, Barred: []api.Pair{}, Locked: []api.Pair{}},
		l:      []api.Pair{},
		other:  []api.Pair{},
		prices: api.Prices{Papers: []int{}, People: []int{}},
		gone:   []string{},
		papers: []api.Paper{},
		bids:   []api.Pair{},
	}
	is(t, show(empty.results()), show(inputs{}.results()))
	empty.papers = []api.Paper{{Id: "p", Authors: []string{}}}
	is(t, show(empty.results()), show(inputs{papers: []api.Paper{{Id: "p"}}}.results()))
}

// Z1: any number of goroutines at once.
func TestAtOnce(t *testing.T) {
	d := dice(47)
	for range 20 {
		x := d.inputs(t)
		want := show(x.results())
		var group sync.WaitGroup
		for range 4 {
			group.Go(func() { is(t, show(x.results()), want) })
		}
		group.Wait()
	}
}

// What follows of P4.3 and P4.4: no right assignment has a Sum above the bound of any prices, and one that prices prove is a best one.
func TestNothingAboveBounds(t *testing.T) {
	d := dice(53)
	found := 0
	for range 2000 {
		x := d.task(t, 4, 4)
		l := d.any(x)
		if l == nil {
			continue
		}
		found++
		var p api.Prices
		for range x.Needs {
			p.Papers = append(p.Papers, d.below(7)-3)
		}
		for range x.Loads {
			p.People = append(p.People, d.below(7)-3)
		}
		bound, e := assign.Bound(x, p)
		is(t, e, api.OK)
		sum, e := assign.Sum(x, l)
		is(t, e, api.OK)
		is(t, sum <= bound, true)
		is(t, pack(assign.Proves(x, l, p)), all(sum == bound, api.OK))
		if best, _ := assign.Best(x); sum == bound {
			is(t, plainSum(x, best), sum)
		}
	}
	if found < 500 {
		t.Error(found)
	}
}
