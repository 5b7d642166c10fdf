package assign_test

import (
	"slices"
	"testing"

	"rebuttal/api"
	"rebuttal/assign"
)

// lack is one of what a list is wrong with: of a pair, of a paper (p), or of a person (-a).
func lack(of string, what int) api.Lack {
	switch {
	case len(of) == 1:
		return api.Lack{Pair: pair(of, ""), What: what}
	case of[0] == '-':
		return api.Lack{Pair: pair("", of[1:]), What: what}
	}
	return api.Lack{Pair: pair(of[:1], of[1:]), What: what}
}

// P4.1: what is wrong with an assignment.
func TestLacks(t *testing.T) {
	x := barring(locking(task("p2 q1 r0", "a0-1 b1-2 c0-0 d2-2", ""), "pb qd"), "pc ra xa xz")
	for _, c := range []struct {
		x    api.Task
		l    string
		want []api.Lack
	}{
		{x, "pb pd qd", nil},
		{x, "pa pb qd", []api.Lack{lack("-d", api.LackIdle)}},
		{x, "", []api.Lack{
			lack("pb", api.LackLocked), lack("qd", api.LackLocked),
			lack("p", api.LackFew), lack("q", api.LackFew),
			lack("-b", api.LackIdle), lack("-d", api.LackIdle),
		}},
		{x, "pa pb pc pd qd ra", []api.Lack{
			lack("pc", api.LackBarred), lack("ra", api.LackBarred),
			lack("p", api.LackMany), lack("r", api.LackMany),
			lack("-a", api.LackBusy), lack("-c", api.LackBusy),
		}},
		// What the task does not have counts for nothing, whether it is barred or not.
		{x, "oa pb pd pz qa qd xa xz", []api.Lack{
			lack("oa", api.LackUnknown), lack("pz", api.LackUnknown), lack("xa", api.LackUnknown), lack("xz", api.LackUnknown),
			lack("q", api.LackMany),
		}},
		// By the pairs, not by the kinds.
		{x, "oa pc pz ra rz", []api.Lack{
			lack("oa", api.LackUnknown), lack("pc", api.LackBarred), lack("pz", api.LackUnknown), lack("ra", api.LackBarred), lack("rz", api.LackUnknown),
			lack("pb", api.LackLocked), lack("qd", api.LackLocked),
			lack("p", api.LackFew), lack("q", api.LackFew), lack("r", api.LackMany),
			lack("-b", api.LackIdle), lack("-c", api.LackBusy), lack("-d", api.LackIdle),
		}},
		{x, "ap bp dp", []api.Lack{
			lack("ap", api.LackUnknown), lack("bp", api.LackUnknown), lack("dp", api.LackUnknown),
			lack("pb", api.LackLocked), lack("qd", api.LackLocked),
			lack("p", api.LackFew), lack("q", api.LackFew),
			lack("-b", api.LackIdle), lack("-d", api.LackIdle),
		}},
		{api.Task{}, "", nil},
		{api.Task{}, "pa", []api.Lack{lack("pa", api.LackUnknown)}},
	} {
		is(t, pack(assign.Lacks(c.x, list(c.l))), all(c.want, api.OK))
		want := api.OK
		if len(c.want) > 0 {
			want = api.ErrRule
		}
		is(t, assign.Check(c.x, list(c.l)), want)
	}
	l := many(api.MaxPapers * api.MaxPeople)
	lacks, e := assign.Lacks(api.Task{}, l)
	is(t, all(len(lacks), e), all(len(l), api.OK))
}

// P4.1: of a right assignment the sum, the least worth, and how many papers each person reads.
func TestSumLeastCounts(t *testing.T) {
	x := task("p2 q1 r0", "a0-1 b1-2 c0-3 d0-1", "pa7 pb-2 pc9 qa-30 rb-40")
	for l, want := range map[string][]any{
		"pa pb qc": all(5, -2, []int{1, 1, 1, 0}),
		"pb pc qc": all(7, -2, []int{0, 1, 2, 0}),
		"pb pc qa": all(-23, -30, []int{1, 1, 1, 0}),
		"pb pd qb": all(-2, -2, []int{0, 2, 0, 1}),
		"pa pc qb": all(16, 0, []int{1, 1, 1, 0}),
	} {
		is(t, pack(assign.Sum(x, list(l))), all(want[0], api.OK))
		is(t, pack(assign.Least(x, list(l))), all(want[1], api.OK))
		is(t, pack(assign.Counts(x, list(l))), all(want[2], api.OK))
	}
	for _, x := range []api.Task{{}, task("p0", "a0-3", "pa-5")} {
		is(t, pack(assign.Sum(x, nil)), all(0, api.OK))
		is(t, pack(assign.Least(x, nil)), all(api.MaxWorth, api.OK))
		is(t, pack(assign.Counts(x, nil)), all(make([]int, len(x.Loads)), api.OK))
	}
	wrong := list("pa qb")
	is(t, pack(assign.Sum(x, wrong)), all(0, api.ErrRule))
	is(t, pack(assign.Least(x, wrong)), all(0, api.ErrRule))
	is(t, pack(assign.Counts(x, wrong)), all([]int{}, api.ErrRule))
}

// P4.1: some lists, compared with a plain version.
func TestCheckPlain(t *testing.T) {
	d := dice(3)
	right := 0
	for range 3000 {
		x := d.task(t, 3, 3)
		l := d.pairs([]string{"p0", "p1", "p2"}, []string{"a", "b", "c"}, 2)
		if best, e := assign.Best(x); e == api.OK && d.below(2) == 0 {
			l = best
		}
		if d.below(4) == 0 {
			l = append(l, pair("z", "a"))
		}
		if !plainRight(x, l) {
			is(t, assign.Check(x, l), api.ErrRule)
			continue
		}
		right++
		least := api.MaxWorth
		for _, p := range l {
			least = min(least, plainWorth(x, p))
		}
		var counts []int
		for _, n := range x.Loads {
			isOf := func(p api.Pair) bool { return p.Person != n.Person }
			counts = append(counts, len(slices.DeleteFunc(slices.Clone(l), isOf)))
		}
		is(t, assign.Check(x, l), api.OK)
		is(t, pack(assign.Sum(x, l)), all(plainSum(x, l), api.OK))
		is(t, pack(assign.Least(x, l)), all(least, api.OK))
		is(t, pack(assign.Counts(x, l)), all(counts, api.OK))
	}
	if right < 300 {
		t.Error(right)
	}
}
