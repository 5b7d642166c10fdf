package proceed_test

import (
	"math"
	"slices"
	"strings"
	"testing"

	"rebuttal/api"
	"rebuttal/proceed"
)

// P9.8: claims, their errors in order.
func TestCheckClaims(t *testing.T) {
	is(t, proceed.CheckClaims(nil), api.OK)
	is(t, proceed.CheckClaims(claims("a 0 0 0", "b 1000000000000 1000000000000 1000000", "c 0 1 2")), api.OK)
	climb(t, slices.Repeat([]api.Claim{{Least: -1, Points: -1}}, api.MaxClaims+1), proceed.CheckClaims, []rung[[]api.Claim]{
		{api.ErrLarge, func(l *[]api.Claim) { *l = slices.Clone((*l)[:2]) }},
		{api.ErrName, at(0, func(c *api.Claim) { c.Person = "b" })},
		{api.ErrArg, at(0, func(c *api.Claim) { c.Least = 1 })},
		{api.ErrArg, at(0, func(c *api.Claim) { c.Most = api.MaxCents + 1 })},
		{api.ErrArg, at(0, func(c *api.Claim) { c.Most = api.MaxCents })},
		{api.ErrArg, at(0, func(c *api.Claim) { c.Points = 1_000_001 })},
		{api.ErrArg, at(0, func(c *api.Claim) { c.Points = 1_000_000 })},
		{api.ErrName, at(1, func(c *api.Claim) { c.Person = "b" })},
		{api.ErrOrder, at(1, func(c *api.Claim) { c.Person = "a" })},
		{api.ErrOrder, at(1, func(c *api.Claim) { c.Person = "c" })},
		{api.ErrArg, at(1, func(c *api.Claim) { c.Least = 0 })},
		{api.ErrArg, at(1, func(c *api.Claim) { c.Points = 0 })},
	})
}

// P9.8: what a claim can be made of.
func TestClaimBounds(t *testing.T) {
	claim := func(change func(*api.Claim)) api.Errno {
		l := claims("a 1 2 3", "b 1 2 3")
		change(&l[1])
		return proceed.CheckClaims(l)
	}
	for _, key := range badKeys {
		is(t, claim(func(c *api.Claim) { c.Person = key }), api.ErrName)
	}
	for n, want := range map[int]api.Errno{0: api.OK, 2: api.OK, 3: api.ErrArg, -1: api.ErrArg, math.MinInt: api.ErrArg, math.MaxInt: api.ErrArg} {
		is(t, claim(func(c *api.Claim) { c.Least = n }), want)
	}
	for n, want := range map[int]api.Errno{0: api.ErrArg, 1: api.OK, api.MaxCents: api.OK, api.MaxCents + 1: api.ErrArg, -1: api.ErrArg, math.MinInt: api.ErrArg, math.MaxInt: api.ErrArg} {
		is(t, claim(func(c *api.Claim) { c.Most = n }), want)
	}
	for n, want := range map[int]api.Errno{0: api.OK, 1_000_000: api.OK, 1_000_001: api.ErrArg, -1: api.ErrArg, math.MinInt: api.ErrArg, math.MaxInt: api.ErrArg} {
		is(t, claim(func(c *api.Claim) { c.Points = n }), want)
	}
	var most []api.Claim
	for _, key := range keys(api.MaxClaims + 1) {
		most = append(most, api.Claim{Person: key})
	}
	is(t, proceed.CheckClaims(most[1:]), api.OK)
	is(t, proceed.CheckClaims(most), api.ErrLarge)
}

// P9.8: who is chosen, and what is left over.
func TestGrants(t *testing.T) {
	for _, c := range []struct {
		l     []api.Claim
		cents int
		want  []api.Paid
	}{
		{claims("ann 60 100 5", "bob 50 80 3", "cid 40 40 3"), 105, paid("ann 65", "cid 40")},
		{nil, 100, nil},
		{claims("a 1 2 3"), 0, nil},
		{claims("a 1 2 3"), 1, paid("a 1")},
		{claims("a 1 2 3"), 2, paid("a 2")},
		{claims("a 1 2 3"), 9, paid("a 2")},
		{claims("a 0 2 3"), 0, paid("a 0")},
		// Points, not how many.
		{claims("a 5 5 3", "b 5 5 3", "c 10 10 7"), 10, paid("c 10")},
		{claims("a 5 5 4", "b 5 5 4", "c 10 10 7"), 10, paid("a 5", "b 5")},
		// The fewest claims.
		{claims("a 5 5 3", "b 5 5 4", "c 10 10 7"), 10, paid("c 10")},
		{claims("a 0 5 0", "b 0 5 1"), 10, paid("b 5")},
		{claims("a 0 5 0"), 10, nil},
		// The first persons.
		{claims("a 5 5 3", "b 5 5 3", "c 5 5 3"), 10, paid("a 5", "b 5")},
		{claims("a 5 5 1", "b 5 5 2", "c 5 5 2", "d 5 5 3"), 10, paid("b 5", "d 5")},
		{claims("a 5 5 1", "b 5 5 2", "c 5 5 3", "d 5 5 4"), 10, paid("c 5", "d 5")},
		{claims("a 6 6 1", "b 5 5 2", "c 5 5 2", "d 4 4 3"), 10, paid("b 5", "d 4")},
		{claims("a 2 2 4", "b 4 4 3", "c 4 4 3", "d 2 2 2"), 6, paid("a 2", "b 4")},
		{claims("a 4 4 2", "b 4 4 3", "c 4 4 3", "d 4 4 4"), 8, paid("b 4", "d 4")},
		{claims("a 4 4 2", "b 4 4 3", "c 4 4 3", "d 4 4 2"), 8, paid("b 4", "c 4")},
		{claims("a 3 3 2", "b 3 3 3", "c 3 3 3", "d 3 3 4"), 6, paid("b 3", "d 3")},
		{claims("a 1 1 1", "b 2 2 2", "c 2 2 2", "d 1 1 1"), 3, paid("a 1", "b 2")},
		// What is left goes by points, then by person.
		{claims("a 1 10 1", "b 1 10 3", "c 1 10 2"), 15, paid("a 1", "b 10", "c 4")},
		{claims("a 1 10 2", "b 1 10 2", "c 1 10 2"), 15, paid("a 10", "b 4", "c 1")},
		{claims("a 1 3 2", "b 1 4 3", "c 1 5 2"), 9, paid("a 3", "b 4", "c 2")},
		{claims("a 1 3 2", "b 1 4 3", "c 1 5 2"), 100, paid("a 3", "b 4", "c 5")},
	} {
		is(t, pack(proceed.Grants(c.l, c.cents)), all(c.want, api.OK))
	}
}

// P9.8: how many cents there can be.
func TestGrantsBounds(t *testing.T) {
	var l []api.Claim
	var want []api.Paid
	for _, key := range keys(api.MaxClaims) {
		l = append(l, api.Claim{Person: key, Least: api.MaxCents, Most: api.MaxCents, Points: 1_000_000})
		want = append(want, api.Paid{Person: key, Cents: api.MaxCents})
	}
	is(t, pack(proceed.Grants(l, 20*api.MaxCents)), all(want, api.OK))
	is(t, pack(proceed.Grants(l, 15*api.MaxCents)), all(want, api.OK))
	is(t, pack(proceed.Grants(l, 15*api.MaxCents-1)), all(want[:14], api.OK))
	for _, cents := range []int{-1, 20*api.MaxCents + 1, math.MinInt, math.MaxInt} {
		is(t, pack(proceed.Grants(l, cents)), all([]api.Paid{}, api.ErrArg))
		is(t, pack(proceed.Grants(claims("a 1 2 3", "a 1 2 3"), cents)), all([]api.Paid{}, api.ErrOrder))
	}
	is(t, pack(proceed.Grants(l, 0)), all([]api.Paid{}, api.OK))
}

// plainGrants looks at all sets, and takes the best one.
func plainGrants(l []api.Claim, cents int) []api.Paid {
	var best []api.Claim
	for _, some := range plainSets(l) {
		if plainSum(some, least) <= cents && plainBetter(some, best) {
			best = some
		}
	}
	left := cents - plainSum(best, least)
	var paid []api.Paid
	for _, c := range best {
		// Those who are asked before this one take what they lack.
		rest := left
		for _, o := range best {
			if o.Points > c.Points || o.Points == c.Points && o.Person < c.Person {
				rest = max(0, rest-(o.Most-o.Least))
			}
		}
		paid = append(paid, api.Paid{Person: c.Person, Cents: c.Least + min(rest, c.Most-c.Least)})
	}
	return paid
}

func least(c api.Claim) int { return c.Least }

func points(c api.Claim) int { return c.Points }

func plainSum(l []api.Claim, of func(api.Claim) int) int {
	sum := 0
	for _, c := range l {
		sum += of(c)
	}
	return sum
}

func plainSets(l []api.Claim) [][]api.Claim {
	if len(l) == 0 {
		return [][]api.Claim{nil}
	}
	var sets [][]api.Claim
	for _, some := range plainSets(l[1:]) {
		sets = append(sets, some, append([]api.Claim{l[0]}, some...))
	}
	return sets
}

// plainBetter compares two sets as the document does.
func plainBetter(a, b []api.Claim) bool {
	if x, y := plainSum(a, points), plainSum(b, points); x != y {
		return x > y
	}
	if len(a) != len(b) {
		return len(a) < len(b)
	}
	return slices.CompareFunc(a, b, func(x, y api.Claim) int { return strings.Compare(x.Person, y.Person) }) < 0
}

// P9.8: grants as the document has them; all that is paid is at most the cents.
func TestGrantsPlainly(t *testing.T) {
	d := dice(37)
	for range 2000 {
		var l []api.Claim
		for _, key := range d.some(keys(8), 2) {
			c := api.Claim{Person: key, Least: d.below(6), Points: d.below(5)}
			c.Most = c.Least + d.below(5)
			l = append(l, c)
		}
		cents := d.below(25)
		got, e := proceed.Grants(l, cents)
		is(t, all(got, e), all(plainGrants(l, cents), api.OK))
		sum := 0
		for _, p := range got {
			sum += p.Cents
		}
		is(t, sum <= cents, true)
	}
}
