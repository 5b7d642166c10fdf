package calibrate_test

import (
	"math"
	"math/big"
	"slices"
	"testing"

	"rebuttal/api"
	"rebuttal/calibrate"
)

// P6.1: Mean, Median and Spread.
func TestOfPapers(t *testing.T) {
	l := marks("p a 8", "p b 5", "q a 0", "q b 3", "q c 1", "r c 10")
	is(t, pack(calibrate.Mean(l, "p")), all(fr(13, 2), api.OK))
	is(t, pack(calibrate.Mean(l, "q")), all(fr(4, 3), api.OK))
	is(t, pack(calibrate.Mean(l, "r")), all(fr(10, 1), api.OK))
	is(t, pack(calibrate.Median(l, "p")), all(13, api.OK))
	is(t, pack(calibrate.Median(l, "q")), all(2, api.OK))
	is(t, pack(calibrate.Median(l, "r")), all(20, api.OK))
	is(t, pack(calibrate.Spread(l, "p")), all(fr(9, 4), api.OK))
	is(t, pack(calibrate.Spread(l, "q")), all(fr(14, 9), api.OK))
	is(t, pack(calibrate.Spread(l, "r")), all(fr(0, 1), api.OK))
	is(t, pack(calibrate.Mean(marks("p a 0"), "p")), all(fr(0, 1), api.OK))
	d := dice(5)
	for range 300 {
		l := d.marks(t, 4, 12)
		for _, paper := range papersOf(l) {
			scores := rats(of(l, paper))
			m := plainMean(scores)
			var squares []*big.Rat
			for _, s := range scores {
				squares = append(squares, times(minus(s, m), minus(s, m)))
			}
			slices.SortFunc(scores, (*big.Rat).Cmp)
			middle := plus(scores[(len(scores)-1)/2], scores[len(scores)/2])
			is(t, pack(calibrate.Mean(l, paper)), all(fraction(m), api.OK))
			is(t, pack(calibrate.Median(l, paper)), all(int(middle.Num().Int64()), api.OK))
			is(t, pack(calibrate.Spread(l, paper)), all(fraction(plainMean(squares)), api.OK))
		}
	}
}

// P6.1: the error of all three.
func TestOfPapersErrors(t *testing.T) {
	for _, paper := range []string{"a", "r", "", "P"} {
		is(t, pack(calibrate.Mean(example(), paper)), all(api.Fraction{}, api.ErrNone))
		is(t, pack(calibrate.Median(example(), paper)), all(0, api.ErrNone))
		is(t, pack(calibrate.Spread(example(), paper)), all(api.Fraction{}, api.ErrNone))
	}
}

// plainAgreement is the first half of P6.2.
func plainAgreement(l []api.Mark) *big.Rat {
	w, d := whole(0), whole(0)
	pairs := func(l []api.Mark) *big.Rat {
		sum := 0
		for i, a := range l {
			for j, b := range l {
				if i != j {
					sum += (a.Score - b.Score) * (a.Score - b.Score)
				}
			}
		}
		return whole(sum)
	}
	two := which(l, func(m api.Mark) bool { return len(of(l, m.Paper)) > 1 })
	for _, paper := range papersOf(two) {
		w = plus(w, by(pairs(of(l, paper)), whole(len(of(l, paper))-1)))
	}
	d = pairs(two)
	if d.Sign() == 0 {
		return whole(1)
	}
	return minus(whole(1), by(times(whole(len(two)-1), w), d))
}

// P6.2: Agreement.
func TestAgreement(t *testing.T) {
	for _, c := range []struct {
		l    []api.Mark
		want api.Fraction
	}{
		{nil, fr(1, 1)},
		{example(), fr(-1, 26)},
		{append(example(), mark("r", "a", 0)), fr(-1, 26)},     // a paper with one mark does not count
		{marks("p a 1", "q a 9"), fr(1, 1)},                    // no paper with two marks
		{marks("p a 4", "p b 4", "q a 4", "q b 4"), fr(1, 1)},  // all are the same
		{marks("p a 4", "p b 4", "q a 7", "q b 7"), fr(1, 1)},  // no paper has two different ones
		{marks("p a 4", "p b 7", "q a 4", "q b 7"), fr(-1, 2)}, // no agreement
		{marks("p a 0", "p b 10", "p c 5", "r d 3", "r e 3"), fr(-13, 137)},
	} {
		is(t, pack(calibrate.Agreement(c.l)), all(c.want, api.OK))
	}
	d := dice(7)
	for range 400 {
		l := d.marks(t, 6, 12)
		is(t, pack(calibrate.Agreement(l)), all(fraction(plainAgreement(l)), api.OK))
	}
}

// P6.2: Agreement of as many marks as there can be, with the greatest differences.
func TestGreatestAgreement(t *testing.T) {
	for people := 1; people <= api.MaxPerPaper; people++ {
		l := grid(api.MaxMarks/people, people)
		for i := range l {
			l[i].Score = i % 2 * api.MaxScore
		}
		is(t, pack(calibrate.Agreement(l)), all(fraction(plainAgreement(l)), api.OK))
	}
}

// plainKappa is the second half of P6.2.
func plainKappa(l []api.Mark, a, b string) []any {
	n, s, e := 0, 0, 0
	byA, byB := [11]int{}, [11]int{}
	for _, paper := range papersOf(l) {
		x, markedA := score(l, paper, a)
		y, markedB := score(l, paper, b)
		if markedA && markedB {
			n++
			byA[x]++
			byB[y]++
			if x == y {
				s++
			}
		}
	}
	for k := range byA {
		e += byA[k] * byB[k]
	}
	switch {
	case a == b:
		return all(api.Fraction{}, api.ErrTwice)
	case n == 0:
		return all(api.Fraction{}, api.ErrNone)
	case n*n == e:
		return all(fr(1, 1), api.OK)
	}
	return all(fraction(rat(n*s-e, n*n-e)), api.OK)
}

// P6.2: Kappa.
func TestKappa(t *testing.T) {
	is(t, pack(calibrate.Kappa(example(), "a", "b")), all(fr(0, 1), api.OK))
	is(t, pack(calibrate.Kappa(marks("p a 3", "p b 3", "q a 3", "q b 3"), "b", "a")), all(fr(1, 1), api.OK))
	is(t, pack(calibrate.Kappa(marks("p a 1", "p b 3", "q a 3", "q b 1"), "b", "a")), all(fr(-1, 1), api.OK))
	is(t, pack(calibrate.Kappa(marks("p a 1", "p b 1", "q a 3", "q b 3", "r a 3", "r b 1"), "b", "a")), all(fr(2, 5), api.OK))
	is(t, pack(calibrate.Kappa(marks("p a 1", "q b 1"), "a", "b")), all(api.Fraction{}, api.ErrNone))
	is(t, pack(calibrate.Kappa(example(), "a", "c")), all(api.Fraction{}, api.ErrNone))
	is(t, pack(calibrate.Kappa(example(), "c", "")), all(api.Fraction{}, api.ErrNone))
	is(t, pack(calibrate.Kappa(example(), "c", "c")), all(api.Fraction{}, api.ErrTwice))
	is(t, pack(calibrate.Kappa(nil, "", "")), all(api.Fraction{}, api.ErrTwice))
	d := dice(11)
	for range 400 {
		l := d.marks(t, 9, 4)
		for _, a := range keys(4) {
			for _, b := range keys(4) {
				is(t, pack(calibrate.Kappa(l, a, b)), plainKappa(l, a, b))
			}
		}
	}
}

// P6.8: Compare.
func TestCompare(t *testing.T) {
	const most = api.MaxDen
	l := []api.Fraction{fr(-most, 1), fr(-most, 3), fr(-7, 2), fr(-1, 1), fr(1-most, most), fr(-1, 3), fr(-1, most), fr(0, 1), fr(1, most), fr(1, most-1), fr(1, 2), fr(most-2, most-1), fr(most-1, most), fr(1, 1), fr(3, 2), fr(most-1, 1), fr(most, 1)}
	for i, a := range l {
		for j, b := range l {
			want := 0
			if i < j {
				want = -1
			} else if i > j {
				want = 1
			}
			is(t, all(a, b, pack(calibrate.Compare(a, b))), all(a, b, all(want, api.OK)))
		}
	}
}

// P6.8: the errors of Compare.
func TestCompareErrors(t *testing.T) {
	for _, bad := range []api.Fraction{
		{}, fr(1, 0), fr(0, 2), fr(2, 2), fr(-2, 2), fr(2, 4), fr(-6, 9), fr(1, -1), fr(-1, -1), fr(0, -1),
		fr(api.MaxDen+1, 1), fr(-api.MaxDen-1, 1), fr(1, api.MaxDen+1), fr(-1, api.MaxDen+1), fr(api.MaxDen, api.MaxDen),
		fr(math.MaxInt, 1), fr(math.MinInt, 1), fr(1, math.MaxInt), fr(1, math.MinInt), fr(math.MinInt, math.MinInt),
	} {
		for _, other := range []api.Fraction{fr(1, 2), fr(-1, 2), {}} {
			is(t, pack(calibrate.Compare(bad, other)), all(0, api.ErrForm))
			is(t, pack(calibrate.Compare(other, bad)), all(0, api.ErrForm))
		}
	}
}
