package assign

import (
	"rebuttal/api"
)

// maxPrice is the greatest price; the least one is below 0 by as much.
const maxPrice = 10 * api.MaxWorth * api.MaxNeeds

// Prove is prices that show what the greatest sum is.
func Prove(t api.Task) (api.Prices, api.Errno) {
	b, e := newTable(t)
	if e != api.OK {
		return api.Prices{}, e
	}
	s, ok := b.best()
	if !ok {
		return api.Prices{}, api.ErrFull
	}
	return s.prices(), api.OK
}

// Bound is above the sum of each right assignment.
func Bound(t api.Task, p api.Prices) (int, api.Errno) {
	b, e := newTable(t)
	if e != api.OK {
		return 0, e
	}
	if e := b.checkPrices(p); e != api.OK {
		return 0, e
	}
	return b.bound(p), api.OK
}

// Proves says whether prices show that an assignment is best.
func Proves(t api.Task, l []api.Pair, p api.Prices) (bool, api.Errno) {
	h, e := newHolding(t, l)
	if e != api.OK {
		return false, e
	}
	if e := h.checkPrices(p); e != api.OK {
		return false, e
	}
	return h.sum() == h.bound(p), api.OK
}

// prices are how much higher the ground is than papers, and persons than the ground. As no step leads higher than what it gains, pairs that can be added have no rest above 0, those that can be taken away none below 0; and a person who could read more has no price above 0, one who could read less none below 0.
func (s *search) prices() api.Prices {
	height := s.heights()
	ground := height[s.ground()]
	var p api.Prices
	for i := range s.needs {
		p.Papers = append(p.Papers, ground-height[i])
	}
	for j := range s.loads {
		p.People = append(p.People, height[s.place(j)]-ground)
	}
	return p
}

func (b *table) checkPrices(p api.Prices) api.Errno {
	if len(p.Papers) != len(b.needs) || len(p.People) != len(b.loads) {
		return api.ErrForm
	}
	for _, l := range [][]int{p.Papers, p.People} {
		for _, n := range l {
			if n < -maxPrice || n > maxPrice {
				return api.ErrArg
			}
		}
	}
	return api.OK
}

func (b *table) bound(p api.Prices) int {
	sum := 0
	for i, n := range b.needs {
		sum += p.Papers[i] * n.Readers
	}
	for j, n := range b.loads {
		sum += max(n.Most*p.People[j], n.Least*p.People[j])
	}
	for i := range b.needs {
		for j := range b.loads {
			rest := b.worth[i][j] - p.Papers[i] - p.People[j]
			if b.locked[i][j] || rest > 0 && !b.barred[i][j] {
				sum += rest
			}
		}
	}
	return sum
}
