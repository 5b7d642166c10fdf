package calibrate_test

import (
	"math"
	"math/big"
	"testing"

	"rebuttal/api"
	"rebuttal/calibrate"
)

// gap is the score of a mark minus the mean of the others' scores, and whether there are others.
func gap(l []api.Mark, m api.Mark) (*big.Rat, bool) {
	others := which(of(l, m.Paper), func(o api.Mark) bool { return o.Person != m.Person })
	if len(others) == 0 {
		return nil, false
	}
	return minus(whole(m.Score), plainMean(rats(others))), true
}

// P6.3: Strict.
func TestStrict(t *testing.T) {
	is(t, pack(calibrate.Strict(example())), all([]api.Valued{{Key: "a", Value: fr(3, 1)}, {Key: "b", Value: fr(-3, 1)}}, api.OK))
	// d has no mark with others; one mark of c does not count
	l := marks("p a 1", "p b 2", "p c 4", "q c 9", "r d 0", "s b 5", "s c 5")
	is(t, pack(calibrate.Strict(l)), all([]api.Valued{{Key: "a", Value: fr(-2, 1)}, {Key: "b", Value: fr(-1, 4)}, {Key: "c", Value: fr(5, 4)}}, api.OK))
	is(t, pack(calibrate.Strict(nil)), all([]api.Valued{}, api.OK))
	d := dice(13)
	for range 300 {
		l := d.marks(t, 6, 12)
		var want []api.Valued
		for _, person := range peopleOf(l) {
			var gaps []*big.Rat
			for _, m := range byPerson(l, person) {
				if g, others := gap(l, m); others {
					gaps = append(gaps, g)
				}
			}
			if len(gaps) > 0 {
				want = append(want, api.Valued{Key: person, Value: fraction(plainMean(gaps))})
			}
		}
		is(t, pack(calibrate.Strict(l)), all(want, api.OK))
	}
}

// P6.3: Outliers.
func TestOutliers(t *testing.T) {
	l := marks("p a 1", "p b 2", "p c 4", "q c 9")
	is(t, pack(calibrate.Outliers(l, 1)), all(marks("p a 1", "p c 4"), api.OK)) // b differs by 1/2
	is(t, pack(calibrate.Outliers(l, 2)), all(marks("p a 1", "p c 4"), api.OK)) // a by 2
	is(t, pack(calibrate.Outliers(l, 3)), all([]api.Mark{}, api.OK))            // c by 5/2
	is(t, pack(calibrate.Outliers(marks("p a 0", "p b 10"), 10)), all(marks("p a 0", "p b 10"), api.OK))
	for _, least := range []int{0, -1, 11, math.MinInt, math.MaxInt} {
		is(t, pack(calibrate.Outliers(l, least)), all([]api.Mark{}, api.ErrArg))
	}
	d := dice(17)
	for range 300 {
		l := d.marks(t, 6, 6)
		for least := 1; least <= api.MaxScore; least++ {
			want := which(l, func(m api.Mark) bool {
				g, others := gap(l, m)
				return others && g.Abs(g).Cmp(whole(least)) >= 0
			})
			is(t, pack(calibrate.Outliers(l, least)), all(want, api.OK))
		}
	}
}

// P6.3: Rank.
func TestRank(t *testing.T) {
	l := marks("p a 5", "p b 1", "q a 5", "r a 2", "s a 9", "t a 5")
	is(t, pack(calibrate.Rank(l, "a", "p")), all(fr(1, 2), api.OK)) // one lower, two the same
	is(t, pack(calibrate.Rank(l, "a", "r")), all(fr(0, 1), api.OK))
	is(t, pack(calibrate.Rank(l, "a", "s")), all(fr(1, 1), api.OK))
	is(t, pack(calibrate.Rank(l, "b", "p")), all(fr(1, 2), api.OK)) // no others
	for _, c := range [][2]string{{"b", "q"}, {"c", "p"}, {"a", "z"}, {"p", "a"}, {"", ""}} {
		is(t, pack(calibrate.Rank(l, c[0], c[1])), all(api.Fraction{}, api.ErrNone))
	}
	d := dice(19)
	for range 300 {
		l := d.marks(t, 8, 3)
		for _, m := range l {
			others, points := 0, 0
			for _, o := range byPerson(l, m.Person) {
				if o.Paper == m.Paper {
					continue
				}
				others++
				if o.Score < m.Score {
					points += 2
				} else if o.Score == m.Score {
					points++
				}
			}
			want := fr(1, 2)
			if others > 0 {
				want = fraction(rat(points, 2*others))
			}
			is(t, pack(calibrate.Rank(l, m.Person, m.Paper)), all(want, api.OK))
		}
	}
}
