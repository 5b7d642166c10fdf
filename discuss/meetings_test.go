package discuss_test

import (
	"maps"
	"math"
	"slices"
	"strings"
	"testing"

	"rebuttal/api"
	"rebuttal/discuss"
)

// The example of the document.
func TestMeetingExample(t *testing.T) {
	leave := list("a x", "c x")
	is(t, pack(discuss.Moves(letters("acb"), leave)), all(2, api.OK))
	is(t, pack(discuss.Moves(letters("abc"), leave)), all(4, api.OK))
	is(t, pack3(discuss.Best(letters("abc"), leave)), all(letters("acb"), 2, api.OK))
}

// P7.7: how often somebody moves, and who.
func TestMoves(t *testing.T) {
	leave := list("a x", "a y", "b y", "b z", "c x", "e w", "e x", "e y", "e z", "f w")
	step := func(paper, leave, enter string) api.Step {
		return api.Step{Paper: paper, Leave: letters(leave), Enter: letters(enter)}
	}
	for _, c := range []struct {
		order string
		moves int
		steps []api.Step
	}{
		{"", 0, nil},
		{"d", 0, []api.Step{step("d", "", "")}},
		{"a", 4, []api.Step{step("a", "xy", "")}},
		{"ab", 6, []api.Step{step("a", "xy", ""), step("b", "z", "x")}},
		{"ba", 6, []api.Step{step("b", "yz", ""), step("a", "x", "z")}},
		{"adb", 8, []api.Step{step("a", "xy", ""), step("d", "", "xy"), step("b", "yz", "")}},
		{"cab", 6, []api.Step{step("c", "x", ""), step("a", "y", ""), step("b", "z", "x")}},
		{"gceb", 8, []api.Step{step("g", "", ""), step("c", "x", ""), step("e", "wyz", ""), step("b", "", "wx")}},
		{"fe", 8, []api.Step{step("f", "w", ""), step("e", "xyz", "")}},
	} {
		is(t, pack(discuss.Moves(letters(c.order), leave)), all(c.moves, api.OK))
		is(t, pack(discuss.Steps(letters(c.order), leave)), all(c.steps, api.OK))
	}
	is(t, pack(discuss.Moves(letters("dba"), nil)), all(0, api.OK))
	is(t, pack(discuss.Steps(letters("da"), nil)), all([]api.Step{step("d", "", ""), step("a", "", "")}, api.OK))
}

// plainMeeting lets everybody move one by one. It returns the moves, and the steps.
func plainMeeting(order []string, leave []api.Pair) (int, []api.Step) {
	moves := 0
	out := map[string]bool{}
	var steps []api.Step
	for _, paper := range order {
		step := api.Step{Paper: paper}
		for _, person := range slices.Sorted(maps.Keys(out)) {
			if out[person] && !slices.Contains(leave, pair(paper, person)) {
				out[person] = false
				step.Enter = append(step.Enter, person)
			}
		}
		for _, p := range leave {
			if p.Paper == paper && !out[p.Person] {
				out[p.Person] = true
				step.Leave = append(step.Leave, p.Person)
			}
		}
		moves += len(step.Enter) + len(step.Leave)
		steps = append(steps, step)
	}
	for _, isOut := range out {
		if isOut {
			moves++
		}
	}
	return moves, steps
}

// orders hands over all orders, the least one first.
func orders(before, left []string, take func([]string)) {
	if len(left) == 0 {
		take(before)
		return
	}
	for i, paper := range left {
		orders(append(slices.Clone(before), paper), slices.Concat(left[:i], left[i+1:]), take)
	}
}

func plainBest(papers []string, leave []api.Pair) ([]string, int) {
	var best []string
	fewest := math.MaxInt
	orders(nil, papers, func(order []string) {
		if moves, _ := plainMeeting(order, leave); moves < fewest {
			best, fewest = order, moves
		}
	})
	return best, fewest
}

func plainGreedy(papers []string, leave []api.Pair) []string {
	var order []string
	for len(order) < len(papers) {
		next, fewest := "", math.MaxInt
		for _, paper := range papers {
			_, steps := plainMeeting(append(slices.Clone(order), paper), leave)
			step := steps[len(order)]
			if moves := len(step.Leave) + len(step.Enter); moves < fewest && !slices.Contains(order, paper) {
				next, fewest = paper, moves
			}
		}
		order = append(order, next)
	}
	return order
}

// P7.7: all functions of meetings, compared with plain versions, and what follows of the promise.
func TestMeetingsPlainly(t *testing.T) {
	d := dice(29)
	for range 200 {
		leave := d.pairs(letters("opqrstuv"), somePeople, 2+d.below(3))
		names := d.some(somePapers, 1+d.below(2))
		order := shuffled(&d, names)
		moves, steps := plainMeeting(order, leave)
		is(t, pack(discuss.Moves(order, leave)), all(moves, api.OK))
		is(t, pack(discuss.Steps(order, leave)), all(steps, api.OK))
		best, fewest := plainBest(names, leave)
		is(t, pack3(discuss.Best(names, leave)), all(best, fewest, api.OK))
		greedy := plainGreedy(names, leave)
		moves, _ = plainMeeting(greedy, leave)
		is(t, pack3(discuss.Greedy(names, leave)), all(greedy, moves, api.OK))
		slices.Reverse(best)
		is(t, pack(discuss.Moves(best, leave)), all(fewest, api.OK))
	}
}

// P7.7: Best and Greedy, with what they choose of equal ones.
func TestBestAndGreedy(t *testing.T) {
	for _, c := range []struct {
		names        string
		leave        []api.Pair
		best         string
		fewest       int
		greedy       string
		greedysMoves int
	}{
		{"", list("a x"), "", 0, "", 0},
		{"a", list("a x", "a y", "b z"), "a", 4, "a", 4},
		{"abc", nil, "abc", 0, "abc", 0},
		{"abc", list("a x", "b y", "c x"), "acb", 4, "acb", 4},
		{"abcd", list("b x", "d x"), "abdc", 2, "acbd", 2},
		{"abcd", list("a x", "b y", "c x", "d y"), "acbd", 4, "acbd", 4},
		{"abc", list("a x", "b x", "b y", "c y"), "abc", 4, "abc", 4},
		// Behind a, c and d are equal for Greedy.
		{"abcd", list("a u", "b v", "b w", "c u", "c v", "c w", "d u", "d v", "d x"), "adcb", 8, "acbd", 10},
		{"abc", list("a x", "b w", "b x", "b y", "c w", "c y", "c z"), "abc", 8, "abc", 8},
	} {
		is(t, all(c.names, pack3(discuss.Best(letters(c.names), c.leave))), all(c.names, all(letters(c.best), c.fewest, api.OK)))
		is(t, all(c.names, pack3(discuss.Greedy(letters(c.names), c.leave))), all(c.names, all(letters(c.greedy), c.greedysMoves, api.OK)))
	}
}

// P7.7: Best of as many papers as there can be: each one has somebody in common with the next one of a chain.
func TestBestOfMost(t *testing.T) {
	names := keys(api.MaxExact)
	var chain []string
	for i := range names {
		chain = append(chain, names[(7+i*2)%len(names)])
	}
	var leave []api.Pair
	for i, paper := range chain {
		if i > 0 {
			leave = append(leave, pair(paper, letters("abcdefgh")[i-1]))
		}
		if i < len(chain)-1 {
			leave = append(leave, pair(paper, letters("abcdefgh")[i]))
		}
	}
	slices.SortFunc(leave, func(a, b api.Pair) int { return strings.Compare(a.Paper+a.Person, b.Paper+b.Person) })
	want := slices.Clone(chain)
	slices.Reverse(want) // begins with a lesser paper than the chain
	is(t, want[0] < chain[0], true)
	is(t, pack3(discuss.Best(names, leave)), all(want, 16, api.OK))
	is(t, pack(discuss.Moves(chain, leave)), all(16, api.OK))
	is(t, pack3(discuss.Best(append(names, "z"), leave)), all([]string{}, 0, api.ErrRule))
	greedy, _, e := discuss.Greedy(append(names, "z"), leave)
	is(t, all(len(greedy), e), all(10, api.OK))
}

// meeting is what functions of meetings are given.
type meeting struct {
	papers []string
	leave  []api.Pair
}

// P7.7: the errors of Moves and Steps, in order.
func TestMovesErrors(t *testing.T) {
	check := func(x meeting) api.Errno {
		n, e := discuss.Moves(x.papers, x.leave)
		steps, same := discuss.Steps(x.papers, x.leave)
		is(t, all(same, e == api.OK || n+len(steps) == 0), all(e, true))
		return e
	}
	climb(t, meeting{make([]string, api.MaxPapers+1), many(api.MaxPapers*api.MaxPeople + 1)}, check, []rung[meeting]{
		{api.ErrLarge, func(x *meeting) { x.papers = letters("qpqA") }},
		{api.ErrTwice, func(x *meeting) { x.papers = letters("qpAq") }},
		{api.ErrName, func(x *meeting) { x.papers = letters("qpa") }},
		{api.ErrLarge, func(x *meeting) { x.leave = list("p b", "p A", "a a") }},
		{api.ErrName, func(x *meeting) { x.leave = list("p b", "p b", "P b") }},
		{api.ErrOrder, func(x *meeting) { x.leave = list("p b", "p a") }},
		{api.ErrOrder, func(x *meeting) { x.leave = list("p a", "p b", "x a") }},
	})
	for _, key := range badKeys {
		is(t, check(meeting{papers: []string{"p", key}}), api.ErrName)
		is(t, check(meeting{leave: []api.Pair{pair(key, "a")}}), api.ErrName)
	}
	back := keys(api.MaxPapers)
	slices.Reverse(back)
	is(t, check(meeting{back, many(api.MaxPapers * api.MaxPeople)}), api.OK)
}

// P7.7: the errors of Best and Greedy, in order.
func TestBestErrors(t *testing.T) {
	check := func(x meeting) api.Errno {
		best, n, e := discuss.Best(x.papers, x.leave)
		greedy, m, same := discuss.Greedy(x.papers, x.leave)
		if e == api.ErrRule {
			is(t, all(len(x.papers) > api.MaxExact, len(greedy), same), all(true, len(x.papers), api.OK))
			return e
		}
		is(t, all(same, e == api.OK || len(best)+n+len(greedy)+m == 0), all(e, true))
		return e
	}
	climb(t, meeting{make([]string, api.MaxPapers+1), many(api.MaxPapers*api.MaxPeople + 1)}, check, []rung[meeting]{
		{api.ErrLarge, func(x *meeting) { x.papers = letters("pqaA") }},
		{api.ErrOrder, func(x *meeting) { x.papers = letters("pp") }},
		{api.ErrOrder, func(x *meeting) { x.papers = letters("pqAa") }},
		{api.ErrName, func(x *meeting) { x.papers = keys(api.MaxPapers) }},
		{api.ErrLarge, func(x *meeting) { x.leave = list("p b", "p A", "a a") }},
		{api.ErrName, func(x *meeting) { x.leave = list("p b", "p b", "P b") }},
		{api.ErrOrder, func(x *meeting) { x.leave = list("p a", "p b", "x a") }},
		{api.ErrRule, func(x *meeting) { x.papers = keys(api.MaxExact + 1) }},
		{api.ErrRule, func(x *meeting) { x.papers = keys(api.MaxExact) }},
	})
	for _, key := range badKeys {
		is(t, check(meeting{papers: []string{key}}), api.ErrName)
		is(t, check(meeting{leave: []api.Pair{pair("p", key)}}), api.ErrName)
	}
}
