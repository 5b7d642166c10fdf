package proceed

import (
	"cmp"
	"math/bits"
	"slices"
	"strings"

	"rebuttal/api"
	"rebuttal/syntax"
)

// Limits of grants that no other chapter has.
const (
	maxPoints  = 1_000_000
	maxGranted = 20 * api.MaxCents
)

// CheckClaims validates claims.
func CheckClaims(l []api.Claim) api.Errno {
	person := func(c api.Claim) string { return c.Person }
	return syntax.RisingBy(l, api.MaxClaims, person, func(c api.Claim) api.Errno {
		if c.Least < 0 || c.Least > c.Most || c.Most > api.MaxCents {
			return api.ErrArg
		}
		if c.Points < 0 || c.Points > maxPoints {
			return api.ErrArg
		}
		return api.OK
	})
}

// Grants says who gets what.
func Grants(l []api.Claim, cents int) ([]api.Paid, api.Errno) {
	if e := CheckClaims(l); e != api.OK {
		return nil, e
	}
	if cents < 0 || cents > maxGranted {
		return nil, api.ErrArg
	}
	return pay(choose(l, cents), cents), api.OK
}

// sums are those of some claims.
type sums struct{ least, points, many int }

// choose are the claims that are granted. A set of claims is a number; the first claim is its highest bit, so that of two sets with as many claims the one whose persons come first is the greater number.
func choose(l []api.Claim, cents int) []api.Claim {
	sets := make([]sums, 1<<len(l))
	best := 0
	for set := 1; set < len(sets); set++ {
		last := l[len(l)-1-bits.TrailingZeros(uint(set))]
		rest := sets[set&(set-1)]
		sets[set] = sums{rest.least + last.Least, rest.points + last.Points, rest.many + 1}
		if sets[set].least <= cents && compareSums(sets[set], sets[best]) >= 0 {
			best = set
		}
	}
	var chosen []api.Claim
	for i, c := range l {
		if best>>(len(l)-1-i)&1 == 1 {
			chosen = append(chosen, c)
		}
	}
	return chosen
}

// compareSums is above 0 if the first ones are better.
func compareSums(a, b sums) int {
	return cmp.Or(cmp.Compare(a.points, b.points), cmp.Compare(b.many, a.many))
}

// pay gives each claim its least, and then the ones with the most points more, as long as there is something left. The claims are by person, and need no more than the cents.
func pay(chosen []api.Claim, cents int) []api.Paid {
	for _, c := range chosen {
		cents -= c.Least
	}
	slices.SortStableFunc(chosen, func(a, b api.Claim) int { return cmp.Compare(b.Points, a.Points) })
	var paid []api.Paid
	for _, c := range chosen {
		more := min(cents, c.Most-c.Least)
		paid = append(paid, api.Paid{Person: c.Person, Cents: c.Least + more})
		cents -= more
	}
	slices.SortFunc(paid, func(a, b api.Paid) int { return strings.Compare(a.Person, b.Person) })
	return paid
}
