package calibrate_test

import (
	"math"
	"math/big"
	"slices"
	"testing"

	"rebuttal/api"
	"rebuttal/calibrate"
)

func plainWins(l []api.Mark, a, b string) int {
	wins := 0
	for _, person := range peopleOf(l) {
		x, markedA := score(l, a, person)
		y, markedB := score(l, b, person)
		if markedA && markedB && x > y {
			wins++
		}
	}
	return wins
}

// plainPoints are the points of a paper, and for how many persons and other papers it could get some.
func plainPoints(l []api.Mark, paper string) (points, chances int) {
	for _, m := range of(l, paper) {
		for _, other := range byPerson(l, m.Person) {
			if other.Paper == paper {
				continue
			}
			chances++
			if m.Score > other.Score {
				points += 2
			} else if m.Score == other.Score {
				points++
			}
		}
	}
	return points, chances
}

// P6.6: Wins.
func TestWins(t *testing.T) {
	l := append(example(), marks("r a 6", "r c 9", "s c 2")...)
	for _, c := range []struct {
		a, b string
		wins int
		e    api.Errno
	}{
		{"p", "q", 2, api.OK},
		{"q", "p", 0, api.OK},
		{"p", "r", 1, api.OK},
		{"q", "r", 0, api.OK}, // a gave both 6
		{"r", "q", 0, api.OK},
		{"r", "s", 1, api.OK},
		{"p", "s", 0, api.OK}, // nobody marked both
		{"p", "p", 0, api.ErrTwice},
		{"x", "x", 0, api.ErrNone},
		{"x", "p", 0, api.ErrNone},
		{"p", "a", 0, api.ErrNone},
		{"p", "", 0, api.ErrNone},
	} {
		is(t, pack(calibrate.Wins(l, c.a, c.b)), all(c.wins, c.e))
	}
	d := dice(43)
	for range 200 {
		l := d.marks(t, 5, 8)
		for _, a := range papersOf(l) {
			for _, b := range papersOf(l) {
				if a != b {
					is(t, pack(calibrate.Wins(l, a, b)), all(plainWins(l, a, b), api.OK))
				}
			}
		}
	}
}

// P6.6: Points.
func TestPoints(t *testing.T) {
	l := append(example(), marks("r a 6", "r c 9", "s d 2")...)
	is(t, pack(calibrate.Points(l)), all([]api.Level{{Key: "p", Level: 6}, {Key: "q", Level: 1}, {Key: "r", Level: 1}, {Key: "s"}}, api.OK))
	is(t, pack(calibrate.Points(nil)), all([]api.Level{}, api.OK))
	d := dice(47)
	for range 200 {
		l := d.marks(t, 7, 8)
		var want []api.Level
		for _, paper := range papersOf(l) {
			points, _ := plainPoints(l, paper)
			want = append(want, api.Level{Key: paper, Level: points})
		}
		is(t, pack(calibrate.Points(l)), all(want, api.OK))
	}
}

// plainWorth is what decides on the place of a paper: the greatest first, then the next one.
func plainWorth(l []api.Mark, paper string, how int) []*big.Rat {
	mean := plainMean(rats(of(l, paper)))
	switch how {
	case api.RankMean:
		return []*big.Rat{mean}
	case api.RankMedian:
		twice, _ := calibrate.Median(l, paper)
		return []*big.Rat{whole(twice), mean}
	case api.RankPoints:
		points, chances := plainPoints(l, paper)
		return []*big.Rat{rat(points, max(chances, 1))}
	case api.RankWins:
		standing := 0
		for _, other := range papersOf(l) {
			if a, b := plainWins(l, paper, other), plainWins(l, other, paper); a > b {
				standing++
			} else if a < b {
				standing--
			}
		}
		return []*big.Rat{whole(standing)}
	}
	worths, _ := plainBalanced(l, 20)
	i := slices.IndexFunc(worths, func(w api.Level) bool { return w.Key == paper })
	return []*big.Rat{whole(worths[i].Level)}
}

func plainOrder(l []api.Mark, how int) []string {
	worth := map[string][]*big.Rat{}
	for _, paper := range papersOf(l) {
		worth[paper] = plainWorth(l, paper, how)
	}
	order := papersOf(l)
	slices.SortStableFunc(order, func(a, b string) int {
		return slices.CompareFunc(worth[b], worth[a], (*big.Rat).Cmp)
	})
	return order
}

// P6.6: Order, by ways that differ.
func TestOrder(t *testing.T) {
	for _, c := range []struct {
		how   int
		l     []api.Mark
		order []string
	}{
		{api.RankMean, marks("p a 1", "p b 1", "p c 7", "q a 2", "r a 4", "s b 3"), []string{"r", "p", "s", "q"}},
		{api.RankMedian, marks("p a 1", "p b 1", "p c 7", "q a 2", "r a 1", "s b 1", "s c 2"), []string{"q", "s", "p", "r"}},
		{api.RankPoints, marks("p a 1", "q a 2", "q b 2", "r b 9", "s c 9", "t a 1"), []string{"r", "q", "p", "t", "s"}},
		{api.RankWins, marks("p a 1", "p b 1", "q a 2", "q b 3", "r b 3", "s a 2", "s b 2", "t c 9"), []string{"q", "r", "t", "s", "p"}},
		{api.RankBalanced, marks("p a 2", "q a 3", "q b 9", "r b 8", "s b 6"), []string{"q", "r", "p", "s"}},
	} {
		is(t, pack(calibrate.Order(c.l, c.how)), all(c.order, api.OK))
		is(t, plainOrder(c.l, c.how), c.order)
		is(t, pack(calibrate.Order(nil, c.how)), all([]string{}, api.OK))
	}
	d := dice(53)
	for range 300 {
		l := d.marks(t, 8, 8)
		for how := api.RankMean; how <= api.RankBalanced; how++ {
			is(t, all(how, pack(calibrate.Order(l, how))), all(how, all(plainOrder(l, how), api.OK)))
		}
	}
}

// P6.6: equal papers by Id, whatever the way.
func TestOrderOfEqualOnes(t *testing.T) {
	var l []api.Mark
	for _, paper := range []string{"a", "b", "b-", "b0", "ba", "c"} {
		l = append(l, mark(paper, "x", 4))
	}
	for how := api.RankMean; how <= api.RankBalanced; how++ {
		is(t, pack(calibrate.Order(l, how)), all(papersOf(l), api.OK))
	}
}

// P6.6, P6.8: ways that are not known.
func TestWaysErrors(t *testing.T) {
	for _, how := range []int{0, -1, 6, math.MinInt, math.MaxInt} {
		is(t, pack(calibrate.Order(example(), how)), all([]string{}, api.ErrKind))
		is(t, pack(calibrate.Order(nil, how)), all([]string{}, api.ErrKind))
		is(t, pack3(calibrate.Range(example(), "p", how)), all(0, 0, api.ErrKind))
		is(t, pack3(calibrate.Range(example(), "a", how)), all(0, 0, api.ErrNone))
	}
	is(t, pack3(calibrate.Range(nil, "a", api.RankMean)), all(0, 0, api.ErrNone))
}

func plainRange(l []api.Mark, paper string, how int) (best, worst int) {
	places := []int{slices.Index(plainOrder(l, how), paper) + 1}
	for _, person := range peopleOf(l) {
		rest := which(l, func(m api.Mark) bool { return m.Person != person })
		if len(of(rest, paper)) > 0 {
			places = append(places, slices.Index(plainOrder(rest, how), paper)+1)
		}
	}
	return slices.Min(places), slices.Max(places)
}

// P6.8: Range.
func TestRange(t *testing.T) {
	// without a, q is before p; without b, p is alone
	l := marks("p a 8", "p b 1", "p c 3", "q b 4")
	is(t, pack3(calibrate.Range(l, "p", api.RankMean)), all(1, 2, api.OK))
	is(t, pack3(calibrate.Range(l, "q", api.RankMean)), all(1, 2, api.OK))
	is(t, pack3(calibrate.Range(example(), "q", api.RankWins)), all(2, 2, api.OK))
	is(t, pack3(calibrate.Range(marks("p a 1"), "p", api.RankMedian)), all(1, 1, api.OK))
	d := dice(59)
	for range 150 {
		l := d.marks(t, 6, 6)
		for how := api.RankMean; how <= api.RankBalanced; how++ {
			for _, paper := range papersOf(l) {
				best, worst := plainRange(l, paper, how)
				is(t, all(how, pack3(calibrate.Range(l, paper, how))), all(how, all(best, worst, api.OK)))
			}
		}
	}
}
