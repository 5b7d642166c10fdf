package assign_test

import (
	"slices"
	"testing"

	"rebuttal/api"
	"rebuttal/assign"
)

// P4.2: best assignments, and of several the least one.
func TestBest(t *testing.T) {
	for _, c := range []struct {
		x    api.Task
		want string
	}{
		{example(), "pb qa"},
		{barring(example(), "qa"), "pa qb"},
		{locking(example(), "pa"), "pa qb"},
		{locking(example(), "qb"), "pa qb"},
		{api.Task{}, ""},
		{task("p0", "a0-1", "pa5"), ""},
		{task("", "a0-1", ""), ""},
		// All are worth the same.
		{task("p1 q1", "a0-1 b0-1", ""), "pa qb"},
		{task("p1 q1", "a0-2 b0-2", ""), "pa qa"},
		{task("p2 q2", "a0-2 b0-1 c0-1", ""), "pa pb qa qc"},
		{barring(task("p1 q1 r1", "a0-1 b0-1 c0-1", ""), "ra rb"), "pa qb rc"},
		{barring(task("p1 q1 r1", "a0-1 b0-1 c0-1", ""), "rb rc"), "pb qc ra"},
		{task("p1 q1", "a0-1 b0-1", "pa2 pb1 qa1 qb0"), "pa qb"},
		{task("p1 q1", "a0-1 b0-1", "pa3 pb1 qa2 qb1"), "pa qb"},
		{task("p1 q1", "a0-1 b0-1", "pa1 pb1 qa1 qb2"), "pa qb"},
		// Somebody has to read something.
		{task("p1 q1", "a0-2 b1-2", ""), "pa qb"},
		{task("p1 q1", "a0-2 b2-2", "pa9 qa9"), "pb qb"},
		{task("p1 q1", "a0-2 b1-2", "pa9 pb-1 qa9 qb-2"), "pb qa"},
		// All of it is worth less than nothing.
		{task("p1", "a0-1 b0-1", "pa-2 pb-1"), "pb"},
		{task("p2", "a0-1 b0-1", "pa-2 pb-1000000"), "pa pb"},
		// A locked pair that nobody would take.
		{locking(task("p1 q1", "a0-2 b0-1", "pa1000000 pb-1000000 qa1000000"), "pb"), "pb qa"},
		{locking(task("p1 q1", "a0-2 b0-1", ""), "qb"), "pa qb"},
	} {
		is(t, pack(assign.Best(c.x)), all(list(c.want), api.OK))
	}
}

// P4.2: there is no right assignment.
func TestBestFull(t *testing.T) {
	for _, x := range []api.Task{
		barring(example(), "qa qb"),
		barring(example(), "pa qa"),
		task("p2", "a0-5", ""),
		task("p1 q1", "a0-1", ""),
		task("p1", "", ""),
		task("p1", "a1-1 b1-1", ""),
		task("", "a1-1", ""),
		task("p0", "a1-1", ""),
		task("p1", "a2-2 b0-1", ""),
		locking(task("p0", "a0-1", ""), "pa"),
		locking(task("p1", "a0-1 b0-1", ""), "pa pb"),
		locking(task("p1", "a0-0 b0-1", ""), "pa"),
		locking(task("p1 q1", "a0-1 b0-1", ""), "pa qa"),
		locking(task("p1 q1", "a0-1 b1-1 c1-1", ""), "pa"),
	} {
		is(t, pack(assign.Best(x)), all([]api.Pair{}, api.ErrFull))
		is(t, pack(assign.Prove(x)), all(api.Prices{}, api.ErrFull))
		is(t, pack3(assign.Fair(x)), all([]api.Pair{}, 0, api.ErrFull))
		is(t, pack3(assign.Repair(x, nil, nil)), all([]api.Pair{}, 0, api.ErrFull))
	}
}

// P4.2: some tasks, compared with a plain version.
func TestBestPlain(t *testing.T) {
	d := dice(5)
	found := 0
	for n := range 2500 {
		x := d.task(t, 3+n%4, 5)
		want, ok := plainBest(x, func(p api.Pair) int { return plainWorth(x, p) })
		if !ok {
			is(t, pack(assign.Best(x)), all([]api.Pair{}, api.ErrFull))
			continue
		}
		found++
		l, e := assign.Best(x)
		is(t, all(l, e), all(want.list, api.OK))
		is(t, plainRight(x, l), true)
		is(t, pack(assign.Sum(x, l)), all(want.sum, api.OK))
	}
	if found < 800 || found > 2200 {
		t.Error(found)
	}
}

// P4.4: the greatest least worth.
func TestFair(t *testing.T) {
	for _, c := range []struct {
		x    api.Task
		want string
		m    int
	}{
		{example(), "pb qa", 3},
		{task("p1 q1", "a0-1 b0-1", "pa100 pb4 qa3 qb0"), "pb qa", 3},
		{locking(task("p1 q1", "a0-1 b0-1", "pa100 pb4 qa3 qb-7"), "pa"), "pa qb", -7},
		{barring(task("p1 q1", "a0-1 b0-1", "pa100 pb4 qa3 qb2"), "pb"), "pa qb", 2},
		{api.Task{}, "", api.MaxWorth},
		{task("p0", "a0-1", "pa-5"), "", api.MaxWorth},
		{task("p1", "a0-1", "pa1000000"), "pa", api.MaxWorth},
		{task("p1", "a0-1", "pa-1000000"), "pa", -api.MaxWorth},
		{task("p1", "a0-1", ""), "pa", 0},
		// With nothing less than 2 the best one is another one than the least one.
		{task("p1 q1 r1", "a0-1 b0-1 c0-1", "pa2 pb3 pc9 qa2 qb3 qc4 ra9 rb2"), "pc qb ra", 3},
		{task("p1 q1", "a0-1 b0-1 c0-1", "pa2 pb2 pc3 qa2 qb2 qc2"), "pc qa", 2},
		// A person who has to read something.
		{task("p1 q1", "a0-2 b1-1", "pa8 pb1 qa9 qb2"), "pa qb", 2},
	} {
		is(t, pack3(assign.Fair(c.x)), all(list(c.want), c.m, api.OK))
	}
}

// P4.4: some tasks, compared with a plain version: from above, all worths are tried.
func TestFairPlain(t *testing.T) {
	d := dice(7)
	found := 0
	for range 1500 {
		x := d.task(t, 4, 4)
		levels := []int{0, api.MaxWorth}
		for _, w := range x.Worths {
			levels = append(levels, w.Worth)
		}
		slices.Sort(levels)
		want := all([]api.Pair{}, 0, api.ErrFull)
		for _, m := range slices.Backward(levels) {
			y := barringLess(x, m)
			isLess := func(p api.Pair) bool { return plainWorth(x, p) < m }
			if slices.ContainsFunc(x.Locked, isLess) {
				continue
			}
			if best, ok := plainBest(y, func(p api.Pair) int { return plainWorth(x, p) }); ok {
				found++
				want = all(best.list, m, api.OK)
				break
			}
		}
		is(t, pack3(assign.Fair(x)), want)
		if best, e := assign.Best(x); e == api.OK {
			l, m, _ := assign.Fair(x)
			least, _ := assign.Least(x, l)
			other, _ := assign.Least(x, best)
			is(t, all(least >= m, m >= other), all(true, true))
		}
	}
	if found < 400 {
		t.Error(found)
	}
}

// barringLess is a task with all pairs barred that are worth less than so much.
func barringLess(x api.Task, m int) api.Task {
	x.Barred = slices.Clone(x.Barred)
	for _, n := range x.Needs {
		for _, l := range x.Loads {
			if p := pair(n.Paper, l.Person); plainWorth(x, p) < m {
				x.Barred = append(x.Barred, p)
			}
		}
	}
	return x
}

// P4.5: repairs.
func TestRepair(t *testing.T) {
	x := task("p1 q1", "a0-1 b0-1 c0-2", "pa5 pb4 pc-9 qa3 qb0")
	for _, c := range []struct {
		x    api.Task
		l    string
		gone []string
		want string
		kept int
	}{
		{x, "pb qa", []string{"b"}, "pc qa", 1},
		{x, "pb qa", []string{"a"}, "pb qc", 1},
		{x, "pb qa", []string{"b", "a"}, "pc qc", 0},
		{x, "pb qa", nil, "pb qa", 2},
		{x, "pc qc", nil, "pc qc", 2},
		{x, "pa qc", []string{"b"}, "pa qc", 2},
		{x, "", nil, "pb qa", 0},
		// To keep a pair is better than any worth.
		{x, "pc", nil, "pc qa", 1},
		{task("p1 q1", "a0-2 b0-2", "pa1000000 pb-1000000 qa1000000 qb-1000000"), "qb", nil, "pa qb", 1},
		{task("p1 q1", "a0-2 b0-2", "pa1000000 pb-1000000 qa1000000 qb-1000000"), "pb qb", nil, "pb qb", 2},
		// Not all of them can be kept: then those that are worth the most, and of equal ones the least.
		{x, "pa pb pc qa qb", nil, "pb qa", 2},
		{task("p1", "a0-1 b0-1 c0-1", "pa1 pb3 pc3"), "pa pb pc", nil, "pb", 1},
		{task("p1", "a0-1 b0-1 c0-1", "pa1 pb3 pc3"), "pa pb pc", []string{"b"}, "pc", 1},
		// What the task does not have, or bars, is not kept.
		{barring(x, "pc"), "oa pc pz qc", nil, "pa qc", 1},
		{barring(x, "pa xz"), "pa xz", nil, "pb qa", 0},
		// Who is gone has to read nothing, whatever is locked or the Least.
		{locking(task("p1 q1", "a1-1 b0-2", ""), "pa"), "pa qb", []string{"a"}, "pb qb", 1},
		{locking(task("p1 q1", "a2-2 b0-2", ""), "pa qa"), "", []string{"a"}, "pb qb", 0},
		{locking(task("p1 q1", "a0-2 b0-2 c0-2", ""), "pa qb"), "pc qa", []string{"a"}, "pc qb", 1},
		{locking(task("p1 q1", "a0-2 b0-2 c1-2", ""), "qb"), "pb qa", []string{"a"}, "pc qb", 0},
		{task("", "a1-1", ""), "", []string{"a"}, "", 0},
		{api.Task{}, "pa", nil, "", 0},
	} {
		is(t, pack3(assign.Repair(c.x, list(c.l), c.gone)), all(list(c.want), c.kept, api.OK))
	}
}

// P4.5: the errors of Repair.
func TestRepairErrors(t *testing.T) {
	x := locking(barring(task("p1 q1", "a0-1 b0-1 c1-2", ""), "pc"), "qc")
	l := list("pa qc")
	for _, c := range []struct {
		gone string
		want api.Errno
	}{
		{"", api.OK}, {"a", api.OK}, {"b", api.OK},
		{"x", api.ErrNone}, {"p", api.ErrNone}, {"a x", api.ErrNone}, {"xx", api.ErrNone},
		{"a a", api.ErrTwice}, {"a b a x", api.ErrTwice}, {"a b x a", api.ErrNone}, {"c a b c", api.ErrTwice},
		{"a b", api.ErrFull}, {"c b a", api.ErrFull},
	} {
		gone := []string{}
		for _, w := range c.gone {
			if w != ' ' {
				gone = append(gone, string(w))
			}
		}
		best, kept, e := assign.Repair(x, l, gone)
		is(t, e, c.want)
		if e != api.OK {
			is(t, all(best, kept), all([]api.Pair{}, 0))
		}
	}
	is(t, pack3(assign.Repair(x, l, []string{""})), all([]api.Pair{}, 0, api.ErrNone))
	is(t, pack3(assign.Repair(x, l, slices.Repeat([]string{"a"}, 200_000))), all([]api.Pair{}, 0, api.ErrTwice))
}

// P4.5: some tasks, compared with a plain version.
func TestRepairPlain(t *testing.T) {
	d := dice(11)
	found, some := 0, 0
	for range 2500 {
		x := d.task(t, 5, 5)
		var names []string
		for _, n := range x.Loads {
			names = append(names, n.Person)
		}
		gone := []string{}
		if len(names) > 0 && d.below(2) == 0 {
			gone = d.some(names, 2)
		}
		l := d.pairs([]string{"p0", "p1", "p2", "p3", "p9"}, []string{"a", "b", "c", "d", "y"}, 1+d.below(4))
		want, ok := plainBest(away(x, gone), func(p api.Pair) int {
			if slices.Contains(l, p) {
				return plainWorth(x, p) + 1_000_000_000
			}
			return plainWorth(x, p)
		})
		if !ok {
			is(t, pack3(assign.Repair(x, l, gone)), all([]api.Pair{}, 0, api.ErrFull))
			continue
		}
		isNew := func(p api.Pair) bool { return !slices.Contains(l, p) }
		kept := len(slices.DeleteFunc(slices.Clone(want.list), isNew))
		found++
		some += min(kept, 1)
		is(t, pack3(assign.Repair(x, l, gone)), all(want.list, kept, api.OK))
		is(t, pack3(assign.Repair(x, want.list, gone)), all(want.list, len(want.list), api.OK))
	}
	if found < 1000 || some < 500 {
		t.Error(found, some)
	}
}

// away is a task without what some persons have to read, or can.
func away(x api.Task, gone []string) api.Task {
	x.Loads = slices.Clone(x.Loads)
	for j, n := range x.Loads {
		if slices.Contains(gone, n.Person) {
			x.Loads[j].Least, x.Loads[j].Most = 0, 0
		}
	}
	isGone := func(p api.Pair) bool { return slices.Contains(gone, p.Person) }
	x.Locked = slices.DeleteFunc(slices.Clone(x.Locked), isGone)
	return x
}

// P4.2: the greatest tasks, of which the answer is known: all pairs are worth the same.
func TestBestGreatest(t *testing.T) {
	x := square(api.MaxNeeds, api.MaxLoads, api.Need{Readers: api.MaxEach}, api.Load{Most: 10})
	var want []api.Pair
	for i, n := range x.Needs {
		for j := range api.MaxEach {
			want = append(want, pair(n.Paper, x.Loads[i/10*10+j].Person))
		}
	}
	is(t, pack(assign.Best(x)), all(want, api.OK))
	// The last person has to read something, and is worth nothing else.
	x = square(api.MaxNeeds, api.MaxLoads, api.Need{Readers: 1}, api.Load{Most: api.MaxNeeds})
	x.Loads[api.MaxLoads-1].Least = 1
	want = nil
	for _, n := range x.Needs {
		want = append(want, pair(n.Paper, "k0000"))
	}
	want[api.MaxNeeds-1].Person = "k0039"
	is(t, pack(assign.Best(x)), all(want, api.OK))
}

// noisy is a greatest task with worths up to so much.
func noisy(d *dice, wide, each, most int) api.Task {
	x := square(api.MaxNeeds, api.MaxLoads, api.Need{Readers: each}, api.Load{Least: most / 3, Most: most})
	for _, n := range x.Needs {
		for _, l := range x.Loads {
			x.Worths = append(x.Worths, api.Worth{Pair: pair(n.Paper, l.Person), Worth: d.below(2*wide+1) - wide})
		}
	}
	x.Barred = d.pairs(keys(api.MaxNeeds), keys(api.MaxLoads), 10)
	isBarred := func(p api.Pair) bool { return slices.Contains(x.Barred, p) }
	x.Locked = slices.DeleteFunc(d.pairs(keys(api.MaxNeeds), keys(api.MaxLoads), 100), isBarred)
	return x
}

// P4.2 to P4.5: great tasks with many ties, or with none. Prices prove that the best one is best, and each step from it to a lesser list is shown to lose something.
func TestNoisy(t *testing.T) {
	d := dice(13)
	for n, wide := range []int{1, 20, api.MaxWorth, 3, 1000} {
		x := noisy(&d, wide, 2+n, 3+3*n)
		l, e := assign.Best(x)
		is(t, e, api.OK)
		p, e := assign.Prove(x)
		is(t, e, api.OK)
		is(t, pack(assign.Proves(x, l, p)), all(true, api.OK))
		is(t, pack3(assign.Repair(x, l, nil)), all(l, len(l), api.OK))
		fair, m, e := assign.Fair(x)
		is(t, e, api.OK)
		is(t, pack(assign.Least(x, fair)), all(m, api.OK))
		y := barringLess(x, m+1)
		slices.SortFunc(y.Barred, comparePairs)
		y.Barred = slices.Compact(y.Barred)
		if _, e := assign.Best(y); e != api.ErrFull && e != api.ErrConflict {
			t.Error(wide, m, e)
		}
		last, kept, e := assign.Repair(x, l, []string{"k0007", "k0031"})
		is(t, e, api.OK)
		is(t, assign.Check(away(x, []string{"k0007", "k0031"}), last), api.OK)
		if kept < len(l)/2 || kept >= len(l) {
			t.Error(kept, len(l))
		}
	}
}

// P4.2: of a task with many ties no lesser list has the sum: whatever pair is added before one of the best list, with all those before it as they are, prices show that the rest has less.
func TestBestLeast(t *testing.T) {
	d := dice(17)
	x := square(9, 9, api.Need{Readers: 3}, api.Load{Least: 1, Most: 4})
	for _, n := range x.Needs {
		for _, l := range x.Loads {
			x.Worths = append(x.Worths, api.Worth{Pair: pair(n.Paper, l.Person), Worth: d.below(3)})
		}
	}
	best, e := assign.Best(x)
	is(t, e, api.OK)
	sum, _ := assign.Sum(x, best)
	y := x
	for _, n := range x.Needs {
		for _, l := range x.Loads {
			p := pair(n.Paper, l.Person)
			if slices.Contains(best, p) {
				y.Locked = append(y.Locked, p)
				continue
			}
			z := y
			z.Locked = append(slices.Clone(y.Locked), p)
			if prices, e := assign.Prove(z); e == api.OK {
				bound, e := assign.Bound(z, prices)
				is(t, all(bound < sum, e), all(true, api.OK))
			}
			y.Barred = append(y.Barred, p)
		}
	}
	is(t, pack(assign.Best(y)), all(best, api.OK))
}

// P4.2: pairs of which one has to go all the way through the task.
func TestBestChain(t *testing.T) {
	for _, wide := range []int{0, 1, api.MaxWorth} {
		x := square(api.MaxNeeds, api.MaxLoads, api.Need{Readers: 1}, api.Load{Most: 1})
		var want []api.Pair
		for i, n := range x.Needs {
			for j, l := range x.Loads {
				p := pair(n.Paper, l.Person)
				switch {
				case j == i:
					x.Worths = append(x.Worths, api.Worth{Pair: p, Worth: wide})
				case j == i+1:
					x.Worths = append(x.Worths, api.Worth{Pair: p, Worth: -wide})
					want = append(want, p)
				case i != api.MaxNeeds-1 || j != 0:
					x.Barred = append(x.Barred, p)
				}
			}
		}
		want = append(want, pair(x.Needs[api.MaxNeeds-1].Paper, x.Loads[0].Person))
		x.Barred = append([]api.Pair{pair("k0000", "k0000")}, x.Barred...)
		is(t, pack(assign.Best(x)), all(want, api.OK))
		p, e := assign.Prove(x)
		is(t, e, api.OK)
		is(t, pack(assign.Proves(x, want, p)), all(true, api.OK))
		// To keep one pair of it costs all the others.
		x.Barred = x.Barred[1:]
		best, e := assign.Best(x)
		is(t, pack(assign.Sum(x, best)), all(api.MaxNeeds*wide, e))
		is(t, pack3(assign.Repair(x, want[5:6], nil)), all(want, 1, api.OK))
	}
}
