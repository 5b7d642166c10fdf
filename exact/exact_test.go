package exact

import (
	"math/big"
	"testing"

	"rebuttal/api"
)

func TestLowest(t *testing.T) {
	for _, c := range [][4]int{
		{0, 1, 0, 1},
		{0, 7, 0, 1},
		{1, 1, 1, 1},
		{6, 4, 3, 2},
		{4, 6, 2, 3},
		{7, 7, 1, 1},
		{1_000_000_000_000_000_000, 2, 500_000_000_000_000_000, 1},
		{999_999_937, 1_000_000_000, 999_999_937, 1_000_000_000},
	} {
		if f := Lowest(c[0], c[1]); f != (api.Fraction{Num: c[2], Den: c[3]}) {
			t.Error(c, f)
		}
	}
	for num := range 60 {
		for den := 1; den < 60; den++ {
			f, r := Lowest(num, den), big.NewRat(int64(num), int64(den))
			if int64(f.Num) != r.Num().Int64() || int64(f.Den) != r.Denom().Int64() {
				t.Error(num, den, f)
			}
		}
	}
}

func TestCompare(t *testing.T) {
	l := []api.Fraction{{Num: 0, Den: 1}, {Num: 1, Den: 1_000_000_000}, {Num: 1, Den: 999_999_999}, {Num: 1, Den: 2}, {Num: 999_999_998, Den: 999_999_999}, {Num: 999_999_999, Den: 1_000_000_000}, {Num: 1, Den: 1}, {Num: 3, Den: 2}, {Num: 1_000_000_000, Den: 1}}
	for i, f := range l {
		for j, g := range l {
			want := 0
			if i < j {
				want = -1
			} else if i > j {
				want = 1
			}
			if n := Compare(f, g); n != want {
				t.Error(f, g, n)
			}
		}
	}
}
