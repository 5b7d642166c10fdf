package discuss

import (
	"cmp"
	"math"
	"slices"

	"rebuttal/api"
	"rebuttal/pairs"
	"rebuttal/syntax"
)

// Moves is how often somebody leaves or comes in.
func Moves(order []string, leave []api.Pair) (int, api.Errno) {
	if e := cmp.Or(checkOrder(order), pairs.Check(leave)); e != api.OK {
		return 0, e
	}
	return newMeeting(leave).moves(order), api.OK
}

// Steps is who leaves and comes in before each paper.
func Steps(order []string, leave []api.Pair) ([]api.Step, api.Errno) {
	if e := cmp.Or(checkOrder(order), pairs.Check(leave)); e != api.OK {
		return nil, e
	}
	m := newMeeting(leave)
	var steps []api.Step
	var out []string
	for _, paper := range order {
		next := m[paper]
		steps = append(steps, api.Step{Paper: paper, Leave: without(next, out), Enter: without(out, next)})
		out = next
	}
	return steps, api.OK
}

// Best is the order with the fewest moves.
func Best(papers []string, leave []api.Pair) ([]string, int, api.Errno) {
	if e := cmp.Or(checkNames(papers), pairs.Check(leave)); e != api.OK {
		return nil, 0, e
	}
	if len(papers) > api.MaxExact {
		return nil, 0, api.ErrRule
	}
	m := newMeeting(leave)
	order := m.best(papers)
	return order, m.moves(order), api.OK
}

// Greedy is an order that always goes on with the fewest moves.
func Greedy(papers []string, leave []api.Pair) ([]string, int, api.Errno) {
	if e := cmp.Or(checkNames(papers), pairs.Check(leave)); e != api.OK {
		return nil, 0, e
	}
	m := newMeeting(leave)
	order := m.greedy(papers)
	return order, m.moves(order), api.OK
}

// checkOrder is what is wrong with an order of papers.
func checkOrder(l []string) api.Errno { return syntax.Distinct(l, api.MaxPapers) }

// meeting is who is out for each paper, sorted.
type meeting map[string][]string

// newMeeting is one with pairs that are right.
func newMeeting(leave []api.Pair) meeting {
	m := meeting{}
	for _, p := range leave {
		m[p.Paper] = append(m[p.Paper], p.Person)
	}
	return m
}

func (m meeting) moves(order []string) int {
	moves := 0
	var out []string
	for _, paper := range order {
		moves += apart(out, m[paper])
		out = m[paper]
	}
	return moves + len(out)
}

func (m meeting) greedy(papers []string) []string {
	left := slices.Clone(papers)
	var order, out []string
	for len(left) > 0 {
		next, fewest := 0, math.MaxInt
		for i, paper := range left {
			if moves := apart(out, m[paper]); moves < fewest {
				next, fewest = i, moves
			}
		}
		order = append(order, left[next])
		out = m[left[next]]
		left = slices.Delete(left, next, next+1)
	}
	return order
}

// best is the least one of the orders with the fewest moves. Sets of papers are bits of numbers. fewest[set][p] are the moves from the paper p on, through all papers of the set, until all are in again; next[set][p] is the first one of these papers then.
func (m meeting) best(papers []string) []string {
	size := len(papers)
	steps := m.steps(papers)
	fewest, next := make([][]int, 1<<size), make([][]int, 1<<size)
	for set := range fewest {
		fewest[set], next[set] = make([]int, size+1), make([]int, size+1)
		for last := range size + 1 {
			if set == 0 {
				fewest[set][last] = steps[last][size]
				continue
			}
			fewest[set][last] = math.MaxInt
			for p := range size {
				if set>>p&1 == 0 {
					continue
				}
				moves := steps[last][p] + fewest[set&^(1<<p)][p]
				if moves < fewest[set][last] {
					fewest[set][last], next[set][last] = moves, p
				}
			}
		}
	}
	var order []string
	last := size
	for set := len(fewest) - 1; set > 0; set &^= 1 << last {
		last = next[set][last]
		order = append(order, papers[last])
	}
	return order
}

// steps are the moves from each paper to each other one; the number behind those of the papers stands for all being in.
func (m meeting) steps(papers []string) [][]int {
	var outs [][]string
	for _, paper := range papers {
		outs = append(outs, m[paper])
	}
	outs = append(outs, nil)
	steps := make([][]int, len(outs))
	for i, from := range outs {
		for _, to := range outs {
			steps[i] = append(steps[i], apart(from, to))
		}
	}
	return steps
}

// without are the strings of a sorted list that another one does not have.
func without(l, other []string) []string {
	var rest []string
	for _, s := range l {
		if _, found := slices.BinarySearch(other, s); !found {
			rest = append(rest, s)
		}
	}
	return rest
}

// apart is how many strings just one of two sorted lists has.
func apart(a, b []string) int {
	many := len(a) + len(b)
	for len(a) > 0 && len(b) > 0 {
		switch {
		case a[0] < b[0]:
			a = a[1:]
		case a[0] > b[0]:
			b = b[1:]
		default:
			a, b = a[1:], b[1:]
			many -= 2
		}
	}
	return many
}
