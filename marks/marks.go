// Package marks has what all chapters share of marks (P6.1 and P7.1 of the document).
package marks

import (
	"rebuttal/api"
	"rebuttal/exact"
	"rebuttal/pairs"
)

// Check is what is wrong with marks. The chapters differ in how many marks a paper has at most.
func Check(l []api.Mark, perPaper int) api.Errno {
	if len(l) > api.MaxMarks {
		return api.ErrLarge
	}
	var last api.Pair
	same := 0
	for _, m := range l {
		if e := pairs.After(m.Pair, last); e != api.OK {
			return e
		}
		if m.Score < 0 || m.Score > api.MaxScore {
			return api.ErrArg
		}
		if m.Paper != last.Paper {
			same = 0
		}
		same++
		if same > perPaper {
			return api.ErrLarge
		}
		last = m.Pair
	}
	return api.OK
}

// Sum is the sum of scores.
func Sum(scores []int) int {
	sum := 0
	for _, s := range scores {
		sum += s
	}
	return sum
}

// Mean is the mean of scores, of which there is at least one.
func Mean(scores []int) api.Fraction { return exact.Lowest(Sum(scores), len(scores)) }
