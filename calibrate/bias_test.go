package calibrate_test

import (
	"math"
	"math/big"
	"slices"
	"testing"

	"rebuttal/api"
	"rebuttal/calibrate"
)

// plainParts gives every paper and person a label, and lets the least one go along marks until nothing changes.
func plainParts(l []api.Mark) []api.Part {
	papers, people := map[string]string{}, map[string]string{}
	for _, m := range l {
		papers[m.Paper], people[m.Person] = m.Paper, "~"
	}
	for changed := true; changed; {
		changed = false
		for _, m := range l {
			least := min(papers[m.Paper], people[m.Person])
			changed = changed || papers[m.Paper] != least || people[m.Person] != least
			papers[m.Paper], people[m.Person] = least, least
		}
	}
	var parts []api.Part
	for _, label := range papersOf(l) {
		if papers[label] != label {
			continue
		}
		has := func(labels map[string]string) func(string) bool {
			return func(key string) bool { return labels[key] != label }
		}
		parts = append(parts, api.Part{Papers: slices.DeleteFunc(papersOf(l), has(papers)), People: slices.DeleteFunc(peopleOf(l), has(people))})
	}
	return parts
}

// P6.4: Parts.
func TestParts(t *testing.T) {
	is(t, pack(calibrate.Parts(nil)), all([]api.Part{}, api.OK))
	is(t, pack(calibrate.Parts(example())), all([]api.Part{{Papers: []string{"p", "q"}, People: []string{"a", "b"}}}, api.OK))
	// the key of a person joins nothing with the paper of the same key
	l := marks("p z 1", "q a 1", "r p 1", "s a 1", "s z 1", "z c 1")
	is(t, pack(calibrate.Parts(l)), all([]api.Part{
		{Papers: []string{"p", "q", "s"}, People: []string{"a", "z"}},
		{Papers: []string{"r"}, People: []string{"p"}},
		{Papers: []string{"z"}, People: []string{"c"}},
	}, api.OK))
	d := dice(23)
	for range 400 {
		l := d.sparse(t)
		is(t, pack(calibrate.Parts(l)), all(plainParts(l), api.OK))
	}
}

// sparse are marks with several parts.
func (d *dice) sparse(t *testing.T) []api.Mark {
	t.Helper()
	var l []api.Mark
	for _, paper := range keys(d.below(8) + 1) {
		for _, person := range keys(8) {
			if d.below(7) == 0 {
				l = append(l, mark(paper, person, d.below(api.MaxScore+1)))
			}
		}
	}
	is(t, calibrate.CheckMarks(l), api.OK)
	return l
}

// checkUnbiased asks whether worths and biases are the solution: the sum of the squares is convex, so that it is the least one where nothing changes it, which is where for each paper and each person the differences have the sum 0.
func checkUnbiased(t *testing.T, l []api.Mark) {
	t.Helper()
	worths, biases, e := calibrate.Unbiased(l)
	is(t, e, api.OK)
	worth, bias := map[string]*big.Rat{}, map[string]*big.Rat{}
	for i, paper := range papersOf(l) {
		is(t, worths[i].Key, paper)
		worth[paper] = toRat(worths[i].Value)
		is(t, fraction(worth[paper]), worths[i].Value)
	}
	for i, person := range peopleOf(l) {
		is(t, biases[i].Key, person)
		bias[person] = toRat(biases[i].Value)
		is(t, fraction(bias[person]), biases[i].Value)
	}
	is(t, all(len(worths), len(biases)), all(len(worth), len(bias)))
	rest := func(l []api.Mark) int {
		sum := whole(0)
		for _, m := range l {
			sum = plus(sum, minus(minus(whole(m.Score), worth[m.Paper]), bias[m.Person]))
		}
		return sum.Sign()
	}
	for paper := range worth {
		is(t, rest(of(l, paper)), 0)
	}
	for person := range bias {
		is(t, rest(byPerson(l, person)), 0)
	}
	for _, part := range plainParts(l) {
		sum := whole(0)
		for _, person := range part.People {
			sum = plus(sum, bias[person])
		}
		is(t, sum.Sign(), 0)
	}
}

// P6.4: Unbiased.
func TestUnbiased(t *testing.T) {
	is(t, pack3(calibrate.Unbiased(nil)), all([]api.Valued{}, []api.Valued{}, api.OK))
	is(t, pack3(calibrate.Unbiased(example())), all([]api.Valued{{Key: "p", Value: fr(13, 2)}, {Key: "q", Value: fr(9, 2)}}, []api.Valued{{Key: "a", Value: fr(3, 2)}, {Key: "b", Value: fr(-3, 2)}}, api.OK))
	// two parts, one of a single mark
	l := marks("p b 3", "q a 1", "q c 4", "r c 6")
	is(t, pack3(calibrate.Unbiased(l)), all([]api.Valued{{Key: "p", Value: fr(3, 1)}, {Key: "q", Value: fr(5, 2)}, {Key: "r", Value: fr(9, 2)}}, []api.Valued{{Key: "a", Value: fr(-3, 2)}, {Key: "b", Value: fr(0, 1)}, {Key: "c", Value: fr(3, 2)}}, api.OK))
	d := dice(29)
	for range 500 {
		checkUnbiased(t, d.marks(t, api.MaxPart, api.MaxPart))
	}
}

// P6.4: the greatest numbers that an elimination has.
func TestGreatestUnbiased(t *testing.T) {
	d := dice(31)
	for range 300 {
		l := grid(api.MaxPart, api.MaxPart)
		for i := range l {
			l[i].Score = d.below(2) * api.MaxScore
		}
		checkUnbiased(t, l)
		some := which(l, func(api.Mark) bool { return d.below(4) > 0 })
		checkUnbiased(t, some)
	}
	var l []api.Mark
	for i, paper := range keys(api.MaxMarks) {
		l = append(l, mark(paper, "a"+keys(api.MaxMarks)[i/api.MaxPart], i%11))
	}
	worths, biases, e := calibrate.Unbiased(l)
	is(t, all(len(worths), len(biases), e), all(api.MaxMarks, api.MaxMarks/api.MaxPart, api.OK))
}

// P6.4: parts that are too large.
func TestUnbiasedErrors(t *testing.T) {
	none := all([]api.Valued{}, []api.Valued{}, api.ErrLarge)
	is(t, pack3(calibrate.Unbiased(grid(api.MaxPart+1, 1))), none)
	is(t, pack3(calibrate.Unbiased(grid(1, api.MaxPart+1))), none)
	is(t, pack3(calibrate.Unbiased(append(marks("a a 1"), grid(2, api.MaxPart+1)...))), none)
	l := append(grid(api.MaxPart, 1), marks("p a 1", "q b 7")...) // many papers, but in parts
	checkUnbiased(t, l)
}

// P6.4: what follows of Shift.
func TestUnbiasedAfterShift(t *testing.T) {
	d := dice(37)
	shifts := 0
	for range 300 {
		l := d.marks(t, api.MaxPart, api.MaxPart)
		if len(l) == 0 {
			continue
		}
		person := l[d.below(len(l))].Person
		shifted, e := calibrate.Shift(l, person, d.below(9)-4)
		if e != api.OK {
			continue
		}
		shifts++
		worths, biases, _ := calibrate.Unbiased(l)
		after, biasesAfter, _ := calibrate.Unbiased(shifted)
		for _, part := range plainParts(l) {
			others := slices.DeleteFunc(part.People, func(p string) bool { return p == person })
			is(t, differences(after, part.Papers), differences(worths, part.Papers))
			is(t, differences(biasesAfter, others), differences(biases, others))
		}
	}
	is(t, shifts > 50, true)
}

// differences are those of the values of each two keys.
func differences(l []api.Valued, keys []string) []string {
	value := map[string]*big.Rat{}
	for _, v := range l {
		value[v.Key] = toRat(v.Value)
	}
	var all []string
	for _, a := range keys {
		for _, b := range keys {
			all = append(all, minus(value[a], value[b]).String())
		}
	}
	return all
}

// plainBalanced is P6.5.
func plainBalanced(l []api.Mark, rounds int) (worths, biases []api.Level) {
	worth, bias := map[string]*big.Int{}, map[string]*big.Int{}
	for _, person := range peopleOf(l) {
		bias[person] = big.NewInt(0)
	}
	down := func(l []api.Mark, other func(api.Mark) *big.Int) *big.Int {
		sum := big.NewInt(0)
		for _, m := range l {
			sum.Add(sum, big.NewInt(int64(1_000_000*m.Score)))
			sum.Sub(sum, other(m))
		}
		// Div rounds down if what it divides by is above 0.
		return sum.Div(sum, big.NewInt(int64(len(l))))
	}
	for range rounds {
		for _, paper := range papersOf(l) {
			worth[paper] = down(of(l, paper), func(m api.Mark) *big.Int { return bias[m.Person] })
		}
		for _, person := range peopleOf(l) {
			bias[person] = down(byPerson(l, person), func(m api.Mark) *big.Int { return worth[m.Paper] })
		}
	}
	for _, paper := range papersOf(l) {
		worths = append(worths, api.Level{Key: paper, Level: int(worth[paper].Int64())})
	}
	for _, person := range peopleOf(l) {
		biases = append(biases, api.Level{Key: person, Level: int(bias[person].Int64())})
	}
	return worths, biases
}

// P6.5: Balanced.
func TestBalanced(t *testing.T) {
	is(t, pack3(calibrate.Balanced(nil, 1)), all([]api.Level{}, []api.Level{}, api.OK))
	is(t, pack3(calibrate.Balanced(example(), 100)), all([]api.Level{{Key: "p", Level: 6_500_000}, {Key: "q", Level: 4_500_000}}, []api.Level{{Key: "a", Level: 1_500_000}, {Key: "b", Level: -1_500_000}}, api.OK))
	// 7/3 and its rest are rounded down, and what is below 0, too
	l := marks("p a 2", "p b 2", "p c 3", "q a 0")
	is(t, pack3(calibrate.Balanced(l, 1)), all([]api.Level{{Key: "p", Level: 2_333_333}, {Key: "q", Level: 0}}, []api.Level{{Key: "a", Level: -166_667}, {Key: "b", Level: -333_333}, {Key: "c", Level: 666_667}}, api.OK))
	d := dice(41)
	for range 300 {
		l, rounds := d.marks(t, 7, 12), d.below(100)+1
		worths, biases := plainBalanced(l, rounds)
		is(t, pack3(calibrate.Balanced(l, rounds)), all(worths, biases, api.OK))
	}
}

// P6.5: the error of Balanced.
func TestBalancedErrors(t *testing.T) {
	for _, rounds := range []int{0, -1, 101, math.MinInt, math.MaxInt} {
		is(t, pack3(calibrate.Balanced(example(), rounds)), all([]api.Level{}, []api.Level{}, api.ErrArg))
	}
}
