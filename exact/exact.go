// Package exact puts fractions in lowest terms, and compares them.
package exact

import (
	"cmp"

	"rebuttal/api"
)

// Lowest is num / den in lowest terms; den is above 0.
func Lowest(num, den int) api.Fraction {
	d := divisor(num, den)
	return api.Fraction{Num: num / d, Den: den / d}
}

// Whole is a whole number as a fraction.
func Whole(n int) api.Fraction { return api.Fraction{Num: n, Den: 1} }

// Check is what is wrong with fractions whose Nums are from least to MaxDen: they are in lowest terms, and their Dens from 1 to MaxDen.
func Check(least int, l ...api.Fraction) api.Errno {
	for _, f := range l {
		if f.Den < 1 || f.Den > api.MaxDen || f.Num < least || f.Num > api.MaxDen || Lowest(f.Num, f.Den) != f {
			return api.ErrForm
		}
	}
	return api.OK
}

// Compare is -1, 0 or 1; it multiplies, so Nums and Dens are to be at most 10^9.
func Compare(a, b api.Fraction) int { return cmp.Compare(a.Num*b.Den, b.Num*a.Den) }

// divisor is the greatest one of two numbers, the second one of which is above 0.
func divisor(a, b int) int {
	for b != 0 {
		a, b = b, a%b
	}
	return max(a, -a)
}
