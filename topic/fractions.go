package topic

import (
	"rebuttal/api"
	"rebuttal/exact"
)

// Add is the sum of two fractions.
func Add(a, b api.Fraction) (api.Fraction, api.Errno) {
	if e := exact.Check(0, a, b); e != api.OK {
		return api.Fraction{}, e
	}
	sum := exact.Lowest(a.Num*b.Den+b.Num*a.Den, a.Den*b.Den)
	if sum.Num > api.MaxDen || sum.Den > api.MaxDen {
		return api.Fraction{}, api.ErrLarge
	}
	return sum, api.OK
}

// Compare compares two fractions.
func Compare(a, b api.Fraction) (int, api.Errno) {
	if e := exact.Check(0, a, b); e != api.OK {
		return 0, e
	}
	return exact.Compare(a, b), api.OK
}
