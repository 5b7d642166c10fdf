package calibrate_test

import (
	"cmp"
	"slices"
	"strings"
	"testing"

	"rebuttal/api"
	"rebuttal/calibrate"
)

// plainStrength is the greatest one of all ways that come to no paper twice; one that does has no greater strength than without its loops.
func plainStrength(l []api.Mark, a, b string, seen []string) int {
	greatest := 0
	for _, next := range papersOf(l) {
		wins := plainWins(l, a, next)
		if slices.Contains(seen, next) || wins <= plainWins(l, next, a) {
			continue
		}
		if next != b {
			wins = min(wins, plainStrength(l, next, b, append(slices.Clone(seen), next)))
		}
		greatest = max(greatest, wins)
	}
	return greatest
}

func plainStrongest(l []api.Mark) []string {
	stronger := map[string]int{}
	for _, a := range papersOf(l) {
		for _, b := range papersOf(l) {
			if a != b && plainStrength(l, a, b, []string{a}) > plainStrength(l, b, a, []string{b}) {
				stronger[a]++
			}
		}
	}
	order := papersOf(l)
	slices.SortStableFunc(order, func(a, b string) int { return cmp.Compare(stronger[b], stronger[a]) })
	return order
}

// votes are marks of persons who give the papers of each order as many points as come after it: "3 abc" are three persons.
func votes(lines ...string) []api.Mark {
	var l []api.Mark
	for _, line := range lines {
		many, order, _ := strings.Cut(line, " ")
		for range int(many[0] - '0') {
			person := keys(99)[len(peopleOf(l))]
			for i, c := range order {
				l = append(l, mark(string(c), person, len(order)-i))
			}
		}
	}
	slices.SortFunc(l, func(a, b api.Mark) int {
		return cmp.Or(strings.Compare(a.Paper, b.Paper), strings.Compare(a.Person, b.Person))
	})
	return l
}

// P6.7: Strongest.
func TestStrongest(t *testing.T) {
	for _, c := range []struct {
		l     []api.Mark
		order string
	}{
		{nil, ""},
		{example(), "p q"},
		{marks("p a 1", "q a 2", "q b 2", "r b 3", "s c 9"), "r q p s"},
		{votes("3 abc", "2 bca", "2 cab"), "a b c"},      // a loop: each way has its weakest step
		{votes("2 abc", "2 bca", "2 cab"), "a b c"},      // a loop of equal ones
		{votes("2 cab", "3 abc", "4 bca"), "b c a"},      // a loop whose weakest step is from a to b
		{votes("1 abcd", "1 bcda", "1 dabc"), "b a c d"}, // a loop in which b beats c by more than a way back
		{votes("5 dcba"), "d c b a"},                     // all say the same
	} {
		is(t, pack(calibrate.Strongest(c.l)), all(strings.Fields(c.order), api.OK))
		is(t, plainStrongest(c.l), strings.Fields(c.order))
	}
	d := dice(61)
	for range 300 {
		l := d.marks(t, 6, 9)
		is(t, pack(calibrate.Strongest(l)), all(plainStrongest(l), api.OK))
	}
}

// P6.7: as many papers as there can be.
func TestStrongestErrors(t *testing.T) {
	order, e := calibrate.Strongest(grid(api.MaxStrong, api.MaxPerPaper))
	is(t, all(len(order), e), all(api.MaxStrong, api.OK))
	is(t, pack(calibrate.Strongest(grid(api.MaxStrong+1, 1))), all([]string{}, api.ErrLarge))
}

func plainAgainst(l []api.Mark, order []string) int {
	contradictions := 0
	for i, earlier := range order {
		for _, later := range order[i+1:] {
			contradictions += plainWins(l, later, earlier)
		}
	}
	return contradictions
}

// P6.7: Against.
func TestAgainst(t *testing.T) {
	is(t, pack(calibrate.Against(example(), []string{"p", "q"})), all(0, api.OK))
	is(t, pack(calibrate.Against(example(), []string{"q", "p"})), all(2, api.OK))
	is(t, pack(calibrate.Against(nil, nil)), all(0, api.OK))
	l := marks("p a 1", "p b 5", "q a 1", "q b 3", "q c 0", "r b 4", "r c 10")
	is(t, pack(calibrate.Against(l, []string{"q", "p", "r"})), all(3, api.OK)) // p and r over q by b, r over q by c
	is(t, pack(calibrate.Against(l, []string{"p", "r", "q"})), all(0, api.OK))
	d := dice(67)
	for range 300 {
		l := d.marks(t, 9, 9)
		order := d.shuffled(papersOf(l))
		is(t, pack(calibrate.Against(l, order)), all(plainAgainst(l, order), api.OK))
	}
}

// P6.7: the errors of Against.
func TestAgainstErrors(t *testing.T) {
	for _, c := range []struct {
		order string
		want  api.Errno
	}{
		{"x p p", api.ErrNone},
		{"p p x", api.ErrTwice},
		{"p a q", api.ErrNone},
		{"p q p", api.ErrTwice},
		{"p q x", api.ErrNone},
		{"p", api.ErrForm},
		{"q", api.ErrForm},
		{"", api.ErrForm},
	} {
		is(t, pack(calibrate.Against(example(), strings.Fields(c.order))), all(0, c.want))
	}
	is(t, pack(calibrate.Against(nil, []string{""})), all(0, api.ErrNone))
}

// orders are all of some papers, in the order of lists.
func orders(papers []string) [][]string {
	if len(papers) == 0 {
		return [][]string{nil}
	}
	var l [][]string
	for i, first := range papers {
		for _, rest := range orders(slices.Concat(papers[:i], papers[i+1:])) {
			l = append(l, append([]string{first}, rest...))
		}
	}
	return l
}

// P6.7: Least.
func TestLeast(t *testing.T) {
	is(t, pack3(calibrate.Least(nil)), all([]string{}, 0, api.OK))
	is(t, pack3(calibrate.Least(example())), all([]string{"p", "q"}, 0, api.OK))
	is(t, pack3(calibrate.Least(votes("2 abc", "2 bca", "2 cab"))), all([]string{"a", "b", "c"}, 8, api.OK))
	is(t, pack3(calibrate.Least(votes("2 cab", "3 abc", "4 bca"))), all([]string{"b", "c", "a"}, 10, api.OK))
	is(t, pack3(calibrate.Least(marks("p a 1", "q b 1", "r a 3", "r c 1"))), all([]string{"q", "r", "p"}, 0, api.OK))
	d := dice(71)
	for range 120 {
		l := d.marks(t, 6, 9)
		var best []string
		least := -1
		for _, order := range orders(papersOf(l)) {
			if n := plainAgainst(l, order); least < 0 || n < least {
				best, least = order, n
			}
		}
		is(t, pack3(calibrate.Least(l)), all(best, least, api.OK))
	}
}

// P6.7: as many papers as there can be.
func TestLeastErrors(t *testing.T) {
	l := grid(api.MaxLeast, api.MaxPerPaper)
	order, least, e := calibrate.Least(l)
	is(t, pack(calibrate.Against(l, order)), all(least, e))
	is(t, pack3(calibrate.Least(grid(api.MaxLeast+1, 1))), all([]string{}, 0, api.ErrLarge))
}

// P6.7: a paper that beats all others is the first one everywhere.
func TestFirst(t *testing.T) {
	d := dice(73)
	found := 0
	for range 400 {
		l := d.marks(t, 5, 9)
		for _, a := range papersOf(l) {
			lost := slices.ContainsFunc(papersOf(l), func(b string) bool { return a != b && plainWins(l, a, b) <= plainWins(l, b, a) })
			if lost {
				continue
			}
			found++
			strongest, _ := calibrate.Strongest(l)
			least, _, _ := calibrate.Least(l)
			wins, _ := calibrate.Order(l, api.RankWins)
			is(t, all(strongest[0], least[0], wins[0]), all(a, a, a))
		}
	}
	is(t, found > 100, true)
}
