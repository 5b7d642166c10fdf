package topic_test

import (
	"math"
	"math/big"
	"testing"

	"rebuttal/api"
	"rebuttal/topic"
)

// badFractions have not the form.
var badFractions = []api.Fraction{
	{}, {Num: 1}, {Num: 0, Den: 2}, {Num: 2, Den: 2}, {Num: 2, Den: 4}, {Num: 6, Den: 9}, {Num: 1, Den: -1}, {Num: -1, Den: 1}, {Num: -1, Den: -1}, {Num: 0, Den: -1},
	{Num: api.MaxDen + 1, Den: 1}, {Num: 1, Den: api.MaxDen + 1}, {Num: api.MaxDen, Den: api.MaxDen},
	{Num: math.MaxInt, Den: 1}, {Num: 1, Den: math.MaxInt}, {Num: math.MinInt, Den: 1}, {Num: 1, Den: math.MinInt}, {Num: math.MinInt, Den: math.MinInt}, {Num: math.MaxInt, Den: math.MaxInt - 1},
}

// P3.4: Add and Compare.
func TestFractions(t *testing.T) {
	l := []api.Fraction{{Num: 0, Den: 1}, {Num: 1, Den: api.MaxDen}, {Num: 1, Den: 6}, {Num: 1, Den: 3}, {Num: 1, Den: 2}, {Num: 2, Den: 3}, {Num: api.MaxDen - 1, Den: api.MaxDen}, {Num: 1, Den: 1}, {Num: 7, Den: 3}, {Num: api.MaxDen - 1, Den: 1}, {Num: api.MaxDen, Den: 1}}
	for i, f := range l {
		for j, g := range l {
			want := 0
			if i < j {
				want = -1
			} else if i > j {
				want = 1
			}
			is(t, all(f, g, pack(topic.Compare(f, g))), all(f, g, all(want, api.OK)))
			sum := new(big.Rat).Add(big.NewRat(int64(f.Num), int64(f.Den)), big.NewRat(int64(g.Num), int64(g.Den)))
			result := all(fraction(sum), api.OK)
			if sum.Num().Cmp(big.NewInt(api.MaxDen)) > 0 || sum.Denom().Cmp(big.NewInt(api.MaxDen)) > 0 {
				result = all(api.Fraction{}, api.ErrLarge)
			}
			is(t, all(f, g, pack(topic.Add(f, g))), all(f, g, result))
		}
	}
	for _, c := range [][6]int{
		{1, 2, 1, 6, 2, 3},
		{1, 2, 1, 2, 1, 1},
		{0, 1, 0, 1, 0, 1},
		{1, 500_000_000, 1, api.MaxDen, 3, api.MaxDen},
		{1, 999_999_999, 999_999_998, 999_999_999, 1, 1},
		{api.MaxDen - 1, 1, 1, 1, api.MaxDen, 1},
		{999_999_999, 2, 999_999_999, 2, 999_999_999, 1},
		{api.MaxDen - 1, api.MaxDen, 1, api.MaxDen, 1, 1},
	} {
		is(t, pack(topic.Add(api.Fraction{Num: c[0], Den: c[1]}, api.Fraction{Num: c[2], Den: c[3]})), all(api.Fraction{Num: c[4], Den: c[5]}, api.OK))
	}
}

// P3.4: the errors of both.
func TestFractionErrors(t *testing.T) {
	for _, f := range badFractions {
		for _, g := range append(badFractions, half()) {
			for _, c := range [][2]api.Fraction{{f, g}, {g, f}} {
				is(t, all(c, pack(topic.Add(c[0], c[1]))), all(c, all(api.Fraction{}, api.ErrForm)))
				is(t, all(c, pack(topic.Compare(c[0], c[1]))), all(c, all(0, api.ErrForm)))
			}
		}
	}
	for _, c := range [][4]int{
		{api.MaxDen, 1, 1, 1},
		{api.MaxDen, 1, 1, 2},
		{1, api.MaxDen, 1, api.MaxDen - 1},
		{1, 40_000, 1, 40_001},
		{api.MaxDen, 1, api.MaxDen, 1},
	} {
		is(t, pack(topic.Add(api.Fraction{Num: c[0], Den: c[1]}, api.Fraction{Num: c[2], Den: c[3]})), all(api.Fraction{}, api.ErrLarge))
	}
}
