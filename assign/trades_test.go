package assign_test

import (
	"cmp"
	"math"
	"slices"
	"testing"

	"rebuttal/api"
	"rebuttal/assign"
)

func trade(first, second string, gain int) api.Trade {
	return api.Trade{First: list(first)[0], Second: list(second)[0], Gain: gain}
}

// P4.6: trades that gain something.
func TestTrades(t *testing.T) {
	x := task("p1 q1 r1", "a0-1 b0-1 c0-1", "pa5 pb9 pc4 qa6 qb5 qc8 ra7 rb3 rc5")
	l := list("pa qb rc")
	for _, c := range []struct {
		x    api.Task
		l    []api.Pair
		want []api.Trade
	}{
		{x, l, []api.Trade{trade("pa", "qb", 5), trade("pa", "rc", 1), trade("qb", "rc", 1)}},
		{locking(x, "qb"), l, []api.Trade{trade("pa", "rc", 1)}},
		{locking(x, "pa"), l, []api.Trade{trade("qb", "rc", 1)}},
		{locking(x, "pa qb rc"), l, nil},
		{barring(x, "pb"), l, []api.Trade{trade("pa", "rc", 1), trade("qb", "rc", 1)}},
		{barring(x, "qa"), l, []api.Trade{trade("pa", "rc", 1), trade("qb", "rc", 1)}},
		{x, list("pb qc ra"), nil},
		{api.Task{}, nil, nil},
		// Equal gains: by First, then Second.
		{task("p1 q1 r1", "a0-1 b0-1 c0-1", "pb1 pc1 qa1 qc1 ra1 rb1"), l, []api.Trade{trade("pa", "qb", 2), trade("pa", "rc", 2), trade("qb", "rc", 2)}},
		{task("p2 q2", "a0-1 b0-1 c0-1 d0-1", "pc1 pd1 qa1 qb1"), list("pa pb qc qd"), []api.Trade{trade("pa", "qc", 2), trade("pa", "qd", 2), trade("pb", "qc", 2), trade("pb", "qd", 2)}},
		// Pairs that are there already, and one person with both papers.
		{task("p2 q2", "a0-2 b0-2 c0-2", "pc9 qa9"), list("pa pb qb qc"), []api.Trade{trade("pa", "qc", 18)}},
		{task("p2 q1", "a0-2 b0-2", "pa-9 qb-9 qa100"), list("pa pb qb"), nil},
		{task("p1 q1", "a0-2 b0-2", "qa-9"), list("pa qa"), nil},
		// The greatest gain.
		{task("p1 q1", "a0-1 b0-1", "pa-1000000 pb1000000 qa1000000 qb-1000000"), list("pa qb"), []api.Trade{trade("pa", "qb", 4_000_000)}},
		{task("p1 q1", "a0-1 b0-1", "pa1000000 pb-1000000 qa-1000000 qb1000000"), list("pa qb"), nil},
		{task("p1 q1", "a0-1 b0-1", "pa1 qb1 pb1 qa1"), list("pa qb"), nil},
	} {
		slices.SortFunc(c.x.Worths, func(a, b api.Worth) int { return comparePairs(a.Pair, b.Pair) })
		is(t, pack(assign.Trades(c.x, c.l)), all(c.want, api.OK))
	}
	is(t, pack(assign.Trades(x, list("pa qa rc"))), all([]api.Trade{}, api.ErrRule))
}

// P4.6: trades that are made, also those that gain nothing, or lose.
func TestApply(t *testing.T) {
	x := barring(locking(task("p2 q2 r1", "a0-2 b0-2 c0-2 d0-1", "pa5 pb4 pc3 qa3 qc7 rd5"), "pb"), "pd")
	l := list("pa pb qb qc rd")
	is(t, assign.Check(x, l), api.OK)
	for _, c := range []struct {
		x    api.Trade
		want string
		e    api.Errno
	}{
		{trade("pa", "qc", -6), "pb pc qa qb rd", api.OK},
		{trade("qb", "rd", -5), "pa pb qc qd rb", api.OK},
		{trade("qc", "rd", -12), "pa pb qb qd rc", api.OK},
		{trade("pa", "qc", 6), "", api.ErrArg},
		{trade("pa", "qc", 0), "", api.ErrArg},
		{trade("pa", "qc", math.MinInt), "", api.ErrArg},
		// Not in the list, at all or as a pair.
		{trade("pc", "qc", 0), "", api.ErrNone},
		{trade("pa", "qa", 0), "", api.ErrNone},
		{trade("pa", "xc", 0), "", api.ErrNone},
		{trade("xa", "qc", 0), "", api.ErrNone},
		{trade("qc", "pc", 0), "", api.ErrNone},
		{api.Trade{}, "", api.ErrNone},
		// No trades: the order of the papers, one paper, one person, what is locked, barred, or there already.
		{trade("qc", "pa", -6), "", api.ErrRule},
		{trade("pa", "pb", 0), "", api.ErrRule},
		{trade("pa", "pa", 0), "", api.ErrRule},
		{trade("pb", "qb", 0), "", api.ErrRule},
		{trade("pb", "qc", 0), "", api.ErrRule},
		{trade("pb", "rd", 0), "", api.ErrRule},
		{trade("pa", "rd", 0), "", api.ErrRule},
		{trade("pa", "qb", 0), "", api.ErrRule},
		{trade("qb", "qc", 0), "", api.ErrRule},
	} {
		is(t, pack(assign.Apply(x, l, c.x)), all(list(c.want), c.e))
	}
	equal := task("p1 q1", "a0-1 b0-1", "")
	is(t, pack(assign.Apply(equal, list("pa qb"), trade("pa", "qb", 0))), all(list("pb qa"), api.OK))
	is(t, pack(assign.Apply(equal, list("pa qb"), trade("pa", "qb", 1))), all(list(""), api.ErrArg))
	// The second pair is locked, or what the first person would have is there already.
	is(t, pack(assign.Apply(locking(equal, "qb"), list("pa qb"), trade("pa", "qb", 0))), all(list(""), api.ErrRule))
	is(t, pack(assign.Apply(barring(equal, "qa"), list("pa qb"), trade("pa", "qb", 0))), all(list(""), api.ErrRule))
	is(t, pack(assign.Apply(task("p1 q2", "a0-2 b0-2", ""), list("pa qa qb"), trade("pa", "qb", 0))), all(list(""), api.ErrRule))
	is(t, pack(assign.Apply(equal, list("pa qa"), trade("xx", "yy", 0))), all(list(""), api.ErrRule))
}

// P4.6: one trade after the other.
func TestImprove(t *testing.T) {
	x := task("p1 q1 r1", "a0-1 b0-1 c0-1", "pa5 pb9 pc4 qa6 qb5 qc8 ra7 rb3 rc5")
	for steps, want := range map[int]string{0: "pa qb rc", 1: "pb qa rc", 2: "pb qc ra", 3: "pb qc ra", 10_000: "pb qc ra"} {
		is(t, pack(assign.Improve(x, list("pa qb rc"), steps)), all(list(want), api.OK))
	}
	// Of equal gains the first one, after which there is none.
	y := task("p1 q1 r1", "a0-1 b0-1 c0-1", "pb1 pc1 qa1 qc1 ra1 rb1")
	is(t, pack(assign.Improve(y, list("pa qb rc"), 1)), all(list("pb qa rc"), api.OK))
	for _, steps := range []int{-1, 10_001, math.MinInt, math.MaxInt} {
		is(t, pack(assign.Improve(x, list("pa qb rc"), steps)), all(list(""), api.ErrArg))
		is(t, pack(assign.Improve(x, list("pa qb"), steps)), all(list(""), api.ErrRule))
	}
	is(t, pack(assign.Improve(api.Task{}, nil, 10_000)), all(list(""), api.OK))
}

// exchanged is a list after a trade, and whether it is one, as the document says it.
func exchanged(t api.Task, l []api.Pair, first, second api.Pair) ([]api.Pair, bool) {
	p, a, q, b := first.Paper, first.Person, second.Paper, second.Person
	free := func(x api.Pair) bool { return !slices.Contains(t.Barred, x) && !slices.Contains(l, x) }
	locked := slices.Contains(t.Locked, first) || slices.Contains(t.Locked, second)
	if p >= q || a == b || locked || !free(pair(p, b)) || !free(pair(q, a)) {
		return nil, false
	}
	after := slices.DeleteFunc(slices.Clone(l), func(x api.Pair) bool { return x == first || x == second })
	after = append(after, pair(p, b), pair(q, a))
	slices.SortFunc(after, comparePairs)
	return after, true
}

func plainTrades(t api.Task, l []api.Pair) []api.Trade {
	var trades []api.Trade
	for _, first := range l {
		for _, second := range l {
			after, ok := exchanged(t, l, first, second)
			if gain := plainSum(t, after) - plainSum(t, l); ok && gain > 0 {
				trades = append(trades, api.Trade{First: first, Second: second, Gain: gain})
			}
		}
	}
	slices.SortFunc(trades, func(a, b api.Trade) int {
		return cmp.Or(cmp.Compare(b.Gain, a.Gain), comparePairs(a.First, b.First), comparePairs(a.Second, b.Second))
	})
	return trades
}

// P4.6: some assignments, compared with a plain version.
func TestTradesPlain(t *testing.T) {
	d := dice(23)
	improved := 0
	for range 1500 {
		x := d.task(t, 6, 6)
		l := d.any(x)
		if l == nil {
			continue
		}
		want := plainTrades(x, l)
		is(t, pack(assign.Trades(x, l)), all(want, api.OK))
		for _, first := range l {
			for _, second := range l {
				after, ok := exchanged(x, l, first, second)
				wrong := all([]api.Pair{}, api.ErrRule)
				gain := plainSum(x, after) - plainSum(x, l)
				if ok {
					is(t, assign.Check(x, after), api.OK)
					is(t, pack(assign.Apply(x, l, api.Trade{First: first, Second: second, Gain: gain})), all(after, api.OK))
					wrong[1] = api.ErrArg
				}
				is(t, pack(assign.Apply(x, l, api.Trade{First: first, Second: second, Gain: gain + 1})), wrong)
			}
		}
		for steps := range 6 {
			is(t, pack(assign.Improve(x, after(x, l, steps), 0)), pack(assign.Improve(x, l, steps)))
		}
		improved += min(1, len(want))
	}
	if improved < 200 {
		t.Error(improved)
	}
}

// any is a right assignment of a task that is seldom the best one; nil if there is none, or it is empty.
func (d *dice) any(x api.Task) []api.Pair {
	x.Worths = nil
	for _, n := range x.Needs {
		for _, l := range x.Loads {
			x.Worths = append(x.Worths, api.Worth{Pair: pair(n.Paper, l.Person), Worth: d.below(100)})
		}
	}
	l, _ := assign.Best(x)
	return l
}

// after is what becomes of a list by so many times the first one of its trades.
func after(x api.Task, l []api.Pair, steps int) []api.Pair {
	for range steps {
		if trades := plainTrades(x, l); len(trades) > 0 {
			l, _ = exchanged(x, l, trades[0].First, trades[0].Second)
		}
	}
	return l
}

// P4.6: Improve of the greatest tasks.
func TestImproveGreatest(t *testing.T) {
	d := dice(29)
	for _, wide := range []int{1, 1000, api.MaxWorth} {
		x := noisy(&d, wide, api.MaxEach, 15)
		worst := x
		worst.Worths = slices.Clone(x.Worths)
		for i := range worst.Worths {
			worst.Worths[i].Worth *= -1
		}
		l, e := assign.Best(worst)
		is(t, e, api.OK)
		best, _ := assign.Best(x)
		improved, e := assign.Improve(x, l, 10_000)
		is(t, e, api.OK)
		is(t, pack(assign.Trades(x, improved)), all([]api.Trade{}, api.OK))
		before, after := plainSum(x, l), plainSum(x, improved)
		is(t, all(before < after, after <= plainSum(x, best)), all(true, true))
	}
}
