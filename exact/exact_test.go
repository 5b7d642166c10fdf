package exact

import (
	"math"
	"math/big"
	"testing"

	"rebuttal/api"
)

func TestLowest(t *testing.T) {
	for _, c := range [][4]int{
		{0, 1, 0, 1},
		{0, 7, 0, 1},
		{1, 1, 1, 1},
		{6, 4, 3, 2},
		{4, 6, 2, 3},
		{7, 7, 1, 1},
		{1_000_000_000_000_000_000, 2, 500_000_000_000_000_000, 1},
		{999_999_937, 1_000_000_000, 999_999_937, 1_000_000_000},
		{-6, 4, -3, 2},
		{-7, 7, -1, 1},
		{math.MinInt, 2, math.MinInt / 2, 1},
		{math.MinInt, 1, math.MinInt, 1},
		{math.MinInt, 3, math.MinInt, 3},
		{math.MinInt + 2, 6, (math.MinInt + 2) / 6, 1},
	} {
		if f := Lowest(c[0], c[1]); f != (api.Fraction{Num: c[2], Den: c[3]}) {
			t.Error(c, f)
		}
	}
	for num := -60; num <= 60; num++ {
		for den := 1; den < 60; den++ {
			f, r := Lowest(num, den), big.NewRat(int64(num), int64(den))
			if int64(f.Num) != r.Num().Int64() || int64(f.Den) != r.Denom().Int64() {
				t.Error(num, den, f)
			}
		}
	}
}

func TestWhole(t *testing.T) {
	for _, n := range []int{0, 1, -1, 10, math.MinInt, math.MaxInt} {
		if f := Whole(n); f != (api.Fraction{Num: n, Den: 1}) || f != Lowest(n, 1) {
			t.Error(n, f)
		}
	}
}

func TestCheck(t *testing.T) {
	for _, c := range []struct {
		least, num, den int
		want            api.Errno
	}{
		{0, 0, 1, api.OK},
		{0, 1, api.MaxDen, api.OK},
		{0, api.MaxDen, 1, api.OK},
		{0, -1, 1, api.ErrForm},
		{-1, -1, 1, api.OK},
		{-1, -2, 1, api.ErrForm},
		{0, 0, 2, api.ErrForm},
		{0, 2, 2, api.ErrForm},
		{-9, -2, 4, api.ErrForm},
		{-9, -3, 4, api.OK},
		{0, 1, 0, api.ErrForm},
		{0, 1, -1, api.ErrForm},
		{0, 1, api.MaxDen + 1, api.ErrForm},
		{0, api.MaxDen + 1, 1, api.ErrForm},
		{math.MinInt, math.MinInt, 1, api.OK},
		{0, math.MaxInt, math.MaxInt, api.ErrForm},
	} {
		f := api.Fraction{Num: c.num, Den: c.den}
		half := api.Fraction{Num: 1, Den: 2}
		for _, e := range []api.Errno{Check(c.least, f), Check(c.least, f, half), Check(c.least, half, f)} {
			if e != c.want {
				t.Error(c, e)
			}
		}
	}
}

func TestCompare(t *testing.T) {
	l := []api.Fraction{{Num: -1_000_000_000, Den: 1}, {Num: -1, Den: 2}, {Num: -1, Den: 1_000_000_000}, {Num: 0, Den: 1}, {Num: 1, Den: 1_000_000_000}, {Num: 1, Den: 999_999_999}, {Num: 1, Den: 2}, {Num: 999_999_998, Den: 999_999_999}, {Num: 999_999_999, Den: 1_000_000_000}, {Num: 1, Den: 1}, {Num: 3, Den: 2}, {Num: 1_000_000_000, Den: 1}}
	for i, f := range l {
		for j, g := range l {
			want := 0
			if i < j {
				want = -1
			} else if i > j {
				want = 1
			}
			if n := Compare(f, g); n != want {
				t.Error(f, g, n)
			}
		}
	}
}
