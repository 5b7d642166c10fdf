package assign_test

import (
	"fmt"
	"math"
	"slices"
	"testing"

	"rebuttal/api"
	"rebuttal/assign"
)

// P4.1: what is right with a task.
func TestCheckTask(t *testing.T) {
	full := square(api.MaxNeeds, api.MaxLoads, api.Need{Readers: api.MaxEach}, api.Load{Least: api.MaxNeeds, Most: api.MaxNeeds})
	for _, n := range full.Needs {
		for _, l := range full.Loads {
			full.Worths = append(full.Worths, api.Worth{Pair: pair(n.Paper, l.Person), Worth: -api.MaxWorth})
		}
	}
	full.Barred = many(api.MaxPapers * api.MaxPeople)
	for _, x := range []api.Task{
		{},
		example(),
		full,
		task("p0 q10", "a0-0 b40-40 c0-40", "pa1000000 qc-1000000"),
		barring(locking(example(), "pa qb"), "pb xa xz"),
		locking(task("p0", "a0-0", ""), "pa"),
		barring(task("", "", ""), "pa"),
	} {
		is(t, assign.CheckTask(x), api.OK)
	}
	full.Barred, full.Locked = nil, nil
	for _, w := range full.Worths {
		full.Locked = append(full.Locked, w.Pair)
	}
	is(t, assign.CheckTask(full), api.OK)
}

// P4.1: the errors of Needs and Loads.
func TestCheckTaskNeedsAndLoads(t *testing.T) {
	x := square(api.MaxNeeds+1, api.MaxLoads+1, api.Need{Readers: -1}, api.Load{Least: -1})
	x.Needs[0].Paper, x.Needs[1].Paper = "A", "A"
	x.Loads[0].Person, x.Loads[1].Person = "A", "A"
	x.Worths = []api.Worth{{}}
	climb(t, x, assign.CheckTask, []rung[api.Task]{
		{api.ErrLarge, func(x *api.Task) { x.Needs = x.Needs[:2] }},
		{api.ErrName, func(x *api.Task) { x.Needs[0].Paper = "p" }},
		{api.ErrArg, func(x *api.Task) { x.Needs[0].Readers = api.MaxEach + 1 }},
		{api.ErrArg, func(x *api.Task) { x.Needs[0].Readers = api.MaxEach }},
		{api.ErrName, func(x *api.Task) { x.Needs[1].Paper = "p" }},
		{api.ErrOrder, func(x *api.Task) { x.Needs[1].Paper = "o" }},
		{api.ErrOrder, func(x *api.Task) { x.Needs[1].Paper = "q" }},
		{api.ErrArg, func(x *api.Task) { x.Needs[1].Readers = 0 }},
		{api.ErrLarge, func(x *api.Task) { x.Loads = x.Loads[:2] }},
		{api.ErrName, func(x *api.Task) { x.Loads[0].Person = "p" }},
		{api.ErrArg, func(x *api.Task) { x.Loads[0].Least = 1 }},
		{api.ErrArg, func(x *api.Task) { x.Loads[0].Most = api.MaxNeeds + 1 }},
		{api.ErrArg, func(x *api.Task) { x.Loads[0].Most = api.MaxNeeds }},
		{api.ErrName, func(x *api.Task) { x.Loads[1].Person = "p" }},
		{api.ErrOrder, func(x *api.Task) { x.Loads[1].Person = "o" }},
		{api.ErrOrder, func(x *api.Task) { x.Loads[1].Person = "q" }},
		{api.ErrArg, func(x *api.Task) { x.Loads[1].Least, x.Loads[1].Most = 0, -1 }},
		{api.ErrArg, func(x *api.Task) { x.Loads[1].Most = 0 }},
		{api.ErrNone, func(x *api.Task) { x.Worths = nil }},
	})
	for _, key := range badKeys {
		is(t, assign.CheckTask(api.Task{Needs: []api.Need{{Paper: key}}}), api.ErrName)
		is(t, assign.CheckTask(api.Task{Loads: []api.Load{{Person: key}}}), api.ErrName)
	}
	for _, n := range []int{math.MinInt, math.MaxInt} {
		is(t, assign.CheckTask(api.Task{Needs: []api.Need{{Paper: "p", Readers: n}}}), api.ErrArg)
		is(t, assign.CheckTask(api.Task{Loads: []api.Load{{Person: "p", Least: n, Most: n}}}), api.ErrArg)
		is(t, assign.CheckTask(api.Task{Loads: []api.Load{{Person: "p", Most: n}}}), api.ErrArg)
	}
}

// P4.1: the errors of Worths, Barred and Locked.
func TestCheckTaskPairs(t *testing.T) {
	x := task("p1 q1", "a0-1 b0-1", "")
	x.Worths = slices.Repeat([]api.Worth{{Worth: math.MaxInt}}, api.MaxNeeds*api.MaxLoads+1)
	x.Barred = append(many(api.MaxPapers*api.MaxPeople), pair("P", "a"))
	x.Locked = slices.Clone(x.Barred)
	climb(t, x, assign.CheckTask, []rung[api.Task]{
		{api.ErrLarge, func(x *api.Task) { x.Worths = x.Worths[:2] }},
		{api.ErrNone, func(x *api.Task) { x.Worths[0].Paper = "p" }},
		{api.ErrNone, func(x *api.Task) { x.Worths[0].Pair = pair("x", "b") }},
		{api.ErrNone, func(x *api.Task) { x.Worths[0].Pair = pair("b", "p") }},
		{api.ErrNone, func(x *api.Task) { x.Worths[0].Pair = pair("p", "b") }},
		{api.ErrArg, func(x *api.Task) { x.Worths[0].Worth = api.MaxWorth + 1 }},
		{api.ErrArg, func(x *api.Task) { x.Worths[0].Worth = -api.MaxWorth - 1 }},
		{api.ErrArg, func(x *api.Task) { x.Worths[0].Worth = math.MinInt }},
		{api.ErrArg, func(x *api.Task) { x.Worths[0].Worth = api.MaxWorth }},
		{api.ErrNone, func(x *api.Task) { x.Worths[1].Pair = pair("p", "b") }},
		{api.ErrOrder, func(x *api.Task) { x.Worths[1].Pair = pair("p", "a") }},
		{api.ErrOrder, func(x *api.Task) { x.Worths[1].Pair = pair("q", "a") }},
		{api.ErrArg, func(x *api.Task) { x.Worths[1].Worth = -api.MaxWorth }},
		{api.ErrLarge, func(x *api.Task) { x.Barred = list("Pa pb pb") }},
		{api.ErrName, func(x *api.Task) { x.Barred[0].Paper = "p" }},
		{api.ErrOrder, func(x *api.Task) { x.Barred = list("pa xz") }},
		{api.ErrLarge, func(x *api.Task) { x.Locked = list("pb qA xz") }},
		{api.ErrName, func(x *api.Task) { x.Locked[1].Person = "z" }},
		{api.ErrConflict, func(x *api.Task) { x.Locked[2] = pair("x", "y") }},
		{api.ErrNone, func(x *api.Task) { x.Locked[1].Person = "a" }},
		{api.ErrNone, func(x *api.Task) { x.Locked = list("pb py") }},
		{api.ErrNone, func(x *api.Task) { x.Locked = list("pb") }},
	})
	is(t, assign.CheckTask(locking(example(), "pb pa")), api.ErrOrder)
	is(t, assign.CheckTask(locking(example(), "pa pa")), api.ErrOrder)
	is(t, assign.CheckTask(barring(locking(example(), "pa qb"), "pb qb")), api.ErrConflict)
}

// inputs is all that a function can be given.
type inputs struct {
	task     api.Task
	l, other []api.Pair
	prices   api.Prices
	gone     []string
	trade    api.Trade
	steps    int
	papers   []api.Paper
	bids     []api.Pair
	text     string
}

// results calls every function, and returns what each one returns.
func (x inputs) results() map[string][]any {
	r := x.ofTasks()
	r["Swaps"] = pack(assign.Swaps(x.papers, x.bids))
	r["Rings"] = pack(assign.Rings(x.papers, x.bids))
	r["Changed"] = pack3(assign.Changed(x.l, x.other))
	r["Text"] = pack(assign.Text(x.l))
	r["Read"] = pack3(assign.Read(x.text))
	return r
}

// ofTasks are the results of all functions with a task.
func (x inputs) ofTasks() map[string][]any {
	r := x.ofLists()
	r["CheckTask"] = all(assign.CheckTask(x.task))
	r["Best"] = pack(assign.Best(x.task))
	r["Prove"] = pack(assign.Prove(x.task))
	r["Bound"] = pack(assign.Bound(x.task, x.prices))
	r["Fair"] = pack3(assign.Fair(x.task))
	return r
}

// ofLists are the results of all functions with a task and a list of pairs.
func (x inputs) ofLists() map[string][]any {
	return map[string][]any{
		"Lacks":   pack(assign.Lacks(x.task, x.l)),
		"Check":   all(assign.Check(x.task, x.l)),
		"Sum":     pack(assign.Sum(x.task, x.l)),
		"Least":   pack(assign.Least(x.task, x.l)),
		"Counts":  pack(assign.Counts(x.task, x.l)),
		"Proves":  pack(assign.Proves(x.task, x.l, x.prices)),
		"Repair":  pack3(assign.Repair(x.task, x.l, x.gone)),
		"Trades":  pack(assign.Trades(x.task, x.l)),
		"Apply":   pack(assign.Apply(x.task, x.l, x.trade)),
		"Improve": pack(assign.Improve(x.task, x.l, x.steps)),
	}
}

// P4.1: all functions with a task return its error first, then that of a list of pairs.
func TestErrorsOfTasksAndLists(t *testing.T) {
	wrong := inputs{l: list("P"), gone: []string{"?"}, steps: -1, prices: api.Prices{Papers: []int{0}}}
	for want, x := range wrongTasks() {
		wrong.task = x
		for name, r := range wrong.ofTasks() {
			if r[len(r)-1] != want {
				t.Error(name, show(r), want)
			}
		}
	}
	wrong.task = example()
	for want, l := range map[api.Errno][]api.Pair{
		api.ErrLarge: append(many(api.MaxPapers*api.MaxPeople), pair("P", "a")),
		api.ErrName:  list("pa qA"),
		api.ErrOrder: list("qb pa"),
	} {
		wrong.l = l
		for name, r := range wrong.ofLists() {
			if r[len(r)-1] != want {
				t.Error(name, fmt.Sprint(r), want)
			}
		}
	}
}
