package topic

import (
	"rebuttal/api"
	"rebuttal/exact"
)

// Add is the sum of two fractions.
func Add(a, b api.Fraction) (api.Fraction, api.Errno) {
	if e := checkFractions(a, b); e != api.OK {
		return api.Fraction{}, e
	}
	sum := exact.Lowest(a.Num*b.Den+b.Num*a.Den, a.Den*b.Den)
	if sum.Num > api.MaxDen || sum.Den > api.MaxDen {
		return api.Fraction{}, api.ErrLarge
	}
	return sum, api.OK
}

// Compare compares two fractions.
func Compare(a, b api.Fraction) (int, api.Errno) {
	if e := checkFractions(a, b); e != api.OK {
		return 0, e
	}
	return exact.Compare(a, b), api.OK
}

func checkFractions(l ...api.Fraction) api.Errno {
	for _, f := range l {
		if f.Den < 1 || f.Den > api.MaxDen || f.Num < 0 || f.Num > api.MaxDen || exact.Lowest(f.Num, f.Den) != f {
			return api.ErrForm
		}
	}
	return api.OK
}
