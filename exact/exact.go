// Package exact puts fractions in lowest terms, and compares them.
package exact

import (
	"cmp"

	"rebuttal/api"
)

// Lowest is num / den in lowest terms; num is not below 0, and den is above 0.
func Lowest(num, den int) api.Fraction {
	d := divisor(num, den)
	return api.Fraction{Num: num / d, Den: den / d}
}

// Compare is -1, 0 or 1; it multiplies, so Nums and Dens are to be at most 10^9.
func Compare(a, b api.Fraction) int { return cmp.Compare(a.Num*b.Den, b.Num*a.Den) }

// divisor is the greatest one of two numbers.
func divisor(a, b int) int {
	for b > 0 {
		a, b = b, a%b
	}
	return a
}
