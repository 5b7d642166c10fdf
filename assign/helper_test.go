package assign_test

import (
	"cmp"
	"fmt"
	"slices"
	"strconv"
	"strings"
	"testing"

	"rebuttal/api"
	"rebuttal/assign"
)

// show writes a value so that nil and empty lists are the same (Z5).
func show(v any) string {
	return strings.ReplaceAll(fmt.Sprintf("%#v", v), "(nil)", "{}")
}

func is(t *testing.T, got, want any) {
	t.Helper()
	if g, w := show(got), show(want); g != w {
		t.Errorf("got %s, want %s", g, w)
	}
}

// all makes a list of the results of a call.
func all(l ...any) []any { return l }

// pack makes a list of the two results of a call.
func pack[T any](v T, e api.Errno) []any { return all(v, e) }

// pack3 makes a list of the three results of a call.
func pack3[T, U any](v T, w U, e api.Errno) []any { return all(v, w, e) }

// rung is the error that a value has, and how it is put right.
type rung[T any] struct {
	want api.Errno
	fix  func(*T)
}

// climb puts right what is wrong with a value, one after the other, and asks for the error before each step.
func climb[T any](t *testing.T, x T, check func(T) api.Errno, rungs []rung[T]) {
	t.Helper()
	for i, r := range rungs {
		if e := check(x); e != r.want {
			t.Errorf("rung %d: got %d, want %d: %.300s", i, e, r.want, show(x))
		}
		r.fix(&x)
	}
	if e := check(x); e != api.OK {
		t.Errorf("at the end: got %d: %.300s", e, show(x))
	}
}

// keys are so many, in order.
func keys(n int) []string {
	l := []string{}
	for i := range n {
		l = append(l, fmt.Sprintf("k%04d", i))
	}
	return l
}

// badKeys are strings that are no keys.
var badKeys = []string{"", "A", "0", "-a", "_a", "a b", "a.", "ä", "a\n", "aB", "a\x00", strings.Repeat("k", api.MaxName+1)}

func pair(paper, person string) api.Pair { return api.Pair{Paper: paper, Person: person} }

// list are pairs whose keys have one letter each.
func list(words string) []api.Pair {
	var l []api.Pair
	for _, w := range strings.Fields(words) {
		l = append(l, pair(w[:1], w[1:]))
	}
	return l
}

// many are so many pairs, in order.
func many(n int) []api.Pair {
	var l []api.Pair
	for i := range n {
		l = append(l, pair(fmt.Sprintf("k%04d", i/api.MaxPeople), fmt.Sprintf("k%04d", i%api.MaxPeople)))
	}
	return l
}

func number(s string) int {
	n, err := strconv.Atoi(s)
	if err != nil {
		panic(err)
	}
	return n
}

// task has keys of one letter: papers with their readers (p1), persons with the least and the most of papers (a0-1), and pairs with worths (pa5).
func task(needs, loads, worths string) api.Task {
	var t api.Task
	for _, w := range strings.Fields(needs) {
		t.Needs = append(t.Needs, api.Need{Paper: w[:1], Readers: number(w[1:])})
	}
	for _, w := range strings.Fields(loads) {
		least, most, _ := strings.Cut(w[1:], "-")
		t.Loads = append(t.Loads, api.Load{Person: w[:1], Least: number(least), Most: number(most)})
	}
	for _, w := range strings.Fields(worths) {
		t.Worths = append(t.Worths, api.Worth{Pair: pair(w[:1], w[1:2]), Worth: number(w[2:])})
	}
	return t
}

// example is the task of the document's example.
func example() api.Task { return task("p1 q1", "a0-1 b0-1", "pa5 pb4 qa3 qb0") }

func barring(t api.Task, words string) api.Task {
	t.Barred = list(words)
	return t
}

func locking(t api.Task, words string) api.Task {
	t.Locked = list(words)
	return t
}

// square is a task with so many papers and persons.
func square(papers, people int, need api.Need, load api.Load) api.Task {
	var t api.Task
	for _, key := range keys(papers) {
		need.Paper = key
		t.Needs = append(t.Needs, need)
	}
	for _, key := range keys(people) {
		load.Person = key
		t.Loads = append(t.Loads, load)
	}
	return t
}

// wrongTasks are tasks with each of the errors.
func wrongTasks() map[api.Errno]api.Task {
	loop := example()
	loop.Worths = append(loop.Worths, loop.Worths[0])
	return map[api.Errno]api.Task{
		api.ErrName:     task("p1 A1", "a0-1", ""),
		api.ErrOrder:    loop,
		api.ErrArg:      task("p1", "a2-1", ""),
		api.ErrLarge:    square(api.MaxNeeds+1, 1, api.Need{}, api.Load{}),
		api.ErrNone:     task("p1", "a0-1", "pb5"),
		api.ErrConflict: barring(locking(example(), "pa"), "pa"),
	}
}

// dice is a row of numbers that look thrown, and are the same each time.
type dice uint64

func (d *dice) below(n int) int {
	*d = *d*6364136223846793005 + 1442695040888963407
	return int(uint64(*d)>>33) % n
}

func (d *dice) pick(l []string) string { return l[d.below(len(l))] }

// some are up to n different strings of a list, sorted.
func (d *dice) some(l []string, n int) []string {
	s := []string{}
	for range d.below(n + 1) {
		s = append(s, d.pick(l))
	}
	slices.Sort(s)
	return slices.Compact(s)
}

// pairs are some of those of papers and persons: of so many dice, one has to say yes.
func (d *dice) pairs(papers, people []string, rare int) []api.Pair {
	var l []api.Pair
	for _, p := range papers {
		for _, a := range people {
			if d.below(rare) == 0 {
				l = append(l, pair(p, a))
			}
		}
	}
	return l
}

// task has up to so many papers and persons, of whom there are often enough.
func (d *dice) task(t *testing.T, papers, people int) api.Task {
	t.Helper()
	var x api.Task
	names := strings.Fields("a b c d e f g h")
	var ids, readers []string
	for i := range d.below(papers + 1) {
		ids = append(ids, fmt.Sprint("p", i))
		x.Needs = append(x.Needs, api.Need{Paper: ids[i], Readers: d.below(min(4, people))})
	}
	for j := range people - d.below(people+1)/2 {
		readers = append(readers, names[j])
		least := d.below(3) / 2
		x.Loads = append(x.Loads, api.Load{Person: names[j], Least: least, Most: least + d.below(5)})
	}
	wide := []int{1, 2, 3, 10, api.MaxWorth}[d.below(5)]
	for _, p := range d.pairs(ids, readers, 1+d.below(2)) {
		x.Worths = append(x.Worths, api.Worth{Pair: p, Worth: d.below(2*wide+1) - wide})
	}
	x.Barred = d.pairs(append(ids, "z"), append(readers, "z"), 6)
	if d.below(2) == 0 {
		x.Locked = slices.DeleteFunc(d.pairs(ids, readers, 15), func(p api.Pair) bool { return slices.Contains(x.Barred, p) })
	}
	is(t, assign.CheckTask(x), api.OK)
	return x
}

func comparePairs(a, b api.Pair) int {
	return cmp.Or(strings.Compare(a.Paper, b.Paper), strings.Compare(a.Person, b.Person))
}

func plainWorth(t api.Task, p api.Pair) int {
	for _, w := range t.Worths {
		if w.Pair == p {
			return w.Worth
		}
	}
	return 0
}

func plainSum(t api.Task, l []api.Pair) int {
	sum := 0
	for _, p := range l {
		sum += plainWorth(t, p)
	}
	return sum
}

// plainRight says whether an assignment is right, as the document says it.
func plainRight(t api.Task, l []api.Pair) bool {
	papers, people := map[string]int{}, map[string]int{}
	for _, p := range l {
		papers[p.Paper]++
		people[p.Person]++
		if slices.Contains(t.Barred, p) {
			return false
		}
	}
	for _, p := range t.Locked {
		if !slices.Contains(l, p) {
			return false
		}
	}
	known := 0
	for _, n := range t.Needs {
		if papers[n.Paper] != n.Readers {
			return false
		}
		known += n.Readers
	}
	for _, n := range t.Loads {
		if people[n.Person] < n.Least || people[n.Person] > n.Most {
			return false
		}
		delete(people, n.Person)
	}
	return known == len(l) && len(people) == 0
}

// choice is an assignment of some papers, and what it is worth.
type choice struct {
	list []api.Pair
	sum  int
}

func (c choice) isBetter(o choice) bool {
	if c.sum != o.sum {
		return c.sum > o.sum
	}
	return slices.CompareFunc(c.list, o.list, comparePairs) < 0
}

// counts are how many papers each person reads.
type counts [8]int

// plainBest goes through the papers, and keeps for each counts of the persons the best choice.
func plainBest(t api.Task, value func(api.Pair) int) (choice, bool) {
	known := map[counts]choice{{}: {}}
	for _, n := range t.Needs {
		next := map[counts]choice{}
		for c, so := range known {
			plainReaders(t, n, 0, n.Readers, c, so, value, next)
		}
		known = next
	}
	var best choice
	found := false
	for c, x := range known {
		idle := false
		for j, n := range t.Loads {
			idle = idle || c[j] < n.Least
		}
		if !idle && (!found || x.isBetter(best)) {
			best, found = x, true
		}
	}
	return best, found
}

// plainReaders adds to next what becomes of a choice with all sets of readers of a paper among the persons from one on.
func plainReaders(t api.Task, n api.Need, from, many int, c counts, so choice, value func(api.Pair) int, next map[counts]choice) {
	if from == len(t.Loads) {
		if old, known := next[c]; many == 0 && (!known || so.isBetter(old)) {
			next[c] = so
		}
		return
	}
	p := pair(n.Paper, t.Loads[from].Person)
	if !slices.Contains(t.Locked, p) {
		plainReaders(t, n, from+1, many, c, so, value, next)
	}
	if many > 0 && c[from] < t.Loads[from].Most && !slices.Contains(t.Barred, p) {
		c[from]++
		so = choice{append(slices.Clone(so.list), p), so.sum + value(p)}
		plainReaders(t, n, from+1, many-1, c, so, value, next)
	}
}
