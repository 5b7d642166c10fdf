package assign_test

import (
	"math"
	"slices"
	"testing"

	"rebuttal/api"
	"rebuttal/assign"
)

func prices(papers ...int) func(people ...int) api.Prices {
	return func(people ...int) api.Prices { return api.Prices{Papers: papers, People: people} }
}

const maxPrice = 10 * api.MaxWorth * api.MaxNeeds

// P4.3: the bound of prices.
func TestBound(t *testing.T) {
	wide := task("p2 q3", "a1-2 b0-4", "pa5 pb-3 qa7 qb1")
	for _, c := range []struct {
		x    api.Task
		p    api.Prices
		want int
	}{
		{example(), prices(4, 2)(1, 0), 7},
		{example(), prices(0, 0)(0, 0), 12},
		{example(), prices(5, 3)(0, 0), 8},
		{api.Task{}, api.Prices{}, 0},
		{wide, prices(0, 0)(0, 0), 13},
		{wide, prices(10, 100)(0, 0), 320},
		{wide, prices(-1, 0)(0, 0), -2 + 6 + 7 + 1},
		// Above 0 by Most, below 0 by Least.
		{wide, prices(10, 10)(3, 5), 50 + 6 + 20},
		{wide, prices(20, 20)(-3, -5), 100 - 3},
		{wide, prices(10, 10)(-3, -5), 50 - 3},
		{wide, prices(5, 5)(-3, -5), 25 - 3 + 3 + 5 + 1},
		// Locked pairs count with any rest, barred ones with none.
		{locking(wide, "pb"), prices(0, 0)(0, 0), 10},
		{locking(wide, "pb qb"), prices(10, 100)(0, 0), 320 - 13 - 99},
		{barring(wide, "pa qb"), prices(0, 0)(0, 0), 7},
		{barring(wide, "pa pz xz"), prices(-1, 0)(0, 0), -2 + 7 + 1},
		{barring(locking(wide, "pb"), "pa qa"), prices(0, 0)(0, 0), -3 + 1},
		{task("p10", "a0-40 b0-0", "pa1000000 pb1000000"), prices(maxPrice)(maxPrice, -maxPrice), 50*maxPrice + api.MaxWorth},
		{task("p10", "a40-40 b0-40", "pa1000000 pb1000000"), prices(-maxPrice)(-maxPrice, 0), -50*maxPrice + 2*maxPrice + api.MaxWorth + maxPrice + api.MaxWorth},
	} {
		is(t, pack(assign.Bound(c.x, c.p)), all(c.want, api.OK))
	}
	// The greatest bound there can be.
	x := square(api.MaxNeeds, api.MaxLoads, api.Need{Readers: api.MaxEach}, api.Load{Most: api.MaxNeeds})
	p := prices(slices.Repeat([]int{-maxPrice}, api.MaxNeeds)...)(slices.Repeat([]int{-maxPrice}, api.MaxLoads)...)
	is(t, pack(assign.Bound(x, p)), all(-api.MaxNeeds*api.MaxEach*maxPrice+api.MaxNeeds*api.MaxLoads*2*maxPrice, api.OK))
}

// P4.3: prices that are not right.
func TestPricesErrors(t *testing.T) {
	right := list("pb qa")
	for _, c := range []struct {
		p    api.Prices
		want api.Errno
	}{
		{prices(4, 2)(1, 0), api.OK},
		{prices(maxPrice, -maxPrice)(maxPrice, -maxPrice), api.OK},
		{api.Prices{}, api.ErrForm},
		{prices(4)(2, 1, 0), api.ErrForm},
		{prices(4, 2)(1), api.ErrForm},
		{prices(4, 2)(1, 0, 0), api.ErrForm},
		{prices(4, 2, 1)(1, 0), api.ErrForm},
		{prices(math.MaxInt)(1, 0), api.ErrForm},
		{prices(math.MaxInt, 2)(1), api.ErrForm},
		{prices(maxPrice+1, 2)(1, 0), api.ErrArg},
		{prices(4, -maxPrice-1)(1, 0), api.ErrArg},
		{prices(4, 2)(-maxPrice-1, 0), api.ErrArg},
		{prices(4, 2)(1, maxPrice+1), api.ErrArg},
		{prices(4, 2)(1, math.MinInt), api.ErrArg},
	} {
		bound, e := assign.Bound(example(), c.p)
		is(t, e, c.want)
		proved, e := assign.Proves(example(), right, c.p)
		is(t, e, c.want)
		if e != api.OK {
			is(t, all(bound, proved), all(0, false))
		}
		// Check's are before them.
		is(t, pack(assign.Proves(example(), list("pa qa"), c.p)), all(false, api.ErrRule))
	}
}

// P4.3: whether prices prove an assignment.
func TestProves(t *testing.T) {
	for _, c := range []struct {
		l    string
		p    api.Prices
		want bool
	}{
		{"pb qa", prices(4, 2)(1, 0), true},
		{"pa qb", prices(4, 2)(1, 0), false},
		{"pb qa", prices(5, 2)(1, 0), false},
		{"pb qa", prices(5, 3)(0, 0), false},
		{"pb qa", prices(3, 1)(2, 1), true},
		{"pb qa", prices(0, 0)(0, 0), false},
	} {
		is(t, pack(assign.Proves(example(), list(c.l), c.p)), all(c.want, api.OK))
	}
}

// plainBound is the bound of prices, as the document says it.
func plainBound(t api.Task, p api.Prices) int {
	sum := 0
	for i, n := range t.Needs {
		sum += p.Papers[i] * n.Readers
		for j, l := range t.Loads {
			x := pair(n.Paper, l.Person)
			rest := plainWorth(t, x) - p.Papers[i] - p.People[j]
			if slices.Contains(t.Locked, x) || !slices.Contains(t.Barred, x) && rest > 0 {
				sum += rest
			}
		}
	}
	for j, l := range t.Loads {
		if price := p.People[j]; price > 0 {
			sum += l.Most * price
		} else {
			sum += l.Least * price
		}
	}
	return sum
}

// P4.3: Prove proves what Best returns, and no prices have a lesser bound.
func TestProve(t *testing.T) {
	d := dice(19)
	found := 0
	for range 2500 {
		x := d.task(t, 6, 6)
		p, e := assign.Prove(x)
		l, full := assign.Best(x)
		is(t, e, full)
		if e != api.OK {
			is(t, p, api.Prices{})
			continue
		}
		found++
		is(t, all(len(p.Papers), len(p.People)), all(len(x.Needs), len(x.Loads)))
		is(t, pack(assign.Bound(x, p)), all(plainSum(x, l), api.OK))
		is(t, pack(assign.Proves(x, l, p)), all(true, api.OK))
		for _, prices := range [][]int{p.Papers, p.People} {
			for i := range prices {
				prices[i] += d.below(5) - 2
			}
		}
		is(t, pack(assign.Bound(x, p)), all(plainBound(x, p), api.OK))
		is(t, plainBound(x, p) >= plainSum(x, l), true)
	}
	if found < 800 {
		t.Error(found)
	}
}
