package submit

import (
	"cmp"
	"slices"
	"strings"

	"rebuttal/api"
	"rebuttal/exact"
	"rebuttal/syntax"
)

// maxLeast is the greatest least length of a run.
const maxLeast = 100

// Runs are the runs of two texts.
func Runs(a, b string, least int) ([]api.Run, api.Errno) {
	if e := checkTwo(a, b, least); e != api.OK {
		return nil, e
	}
	number := numberer()
	var l []api.Run
	eachRun(number(a), number(b), least, func(r api.Run) { l = append(l, r) })
	if len(l) > api.MaxRuns {
		return nil, api.ErrFull
	}
	return l, api.OK
}

// Overlap is how much two texts have in common.
func Overlap(a, b string, least int) (api.Fraction, api.Errno) {
	if e := checkTwo(a, b, least); e != api.OK {
		return api.Fraction{}, e
	}
	number := numberer()
	return overlap(number(a), number(b), least), api.OK
}

// Alike are the drafts that have much in common.
func Alike(l []api.Draft, least, percent int) ([]api.Twins, api.Errno) {
	if e := checkDrafts(l); e != api.OK {
		return nil, e
	}
	if !isLeast(least) || percent < 1 || percent > 100 {
		return nil, api.ErrArg
	}
	number := numberer()
	words := make([][]int, len(l))
	for i, d := range l {
		words[i] = number(d.Text)
	}
	var twins []api.Twins
	for i, d := range l {
		for j, other := range l[:i] {
			f := overlap(words[i], words[j], least)
			if 100*f.Num >= percent*f.Den {
				twins = append(twins, api.Twins{A: min(d.Id, other.Id), B: max(d.Id, other.Id), Overlap: f})
			}
		}
	}
	slices.SortFunc(twins, compareTwins)
	return twins, api.OK
}

func isLeast(n int) bool { return n >= 1 && n <= maxLeast }

func checkTwo(a, b string, least int) api.Errno {
	for _, text := range []string{a, b} {
		if e := checkRunText(text); e != api.OK {
			return e
		}
	}
	if !isLeast(least) {
		return api.ErrArg
	}
	return api.OK
}

func checkRunText(text string) api.Errno {
	if e := checkText(text); e != api.OK {
		return e
	}
	if len(placedWords(text)) > api.MaxRunWords {
		return api.ErrLarge
	}
	return api.OK
}

func checkDrafts(l []api.Draft) api.Errno {
	id := func(d api.Draft) string { return d.Id }
	return syntax.DistinctBy(l, api.MaxDrafts, id, func(d api.Draft) api.Errno { return checkRunText(d.Text) })
}

// numberer is a function that writes the words of texts as numbers, equal words as equal ones, for these are faster to compare.
func numberer() func(string) []int {
	known := map[string]int{}
	return func(text string) []int {
		var l []int
		for _, w := range Words(text) {
			n, there := known[w]
			if !there {
				n = len(known)
				known[w] = n
			}
			l = append(l, n)
		}
		return l
	}
}

// eachRun hands over the runs of two lists of words, in order.
func eachRun(a, b []int, least int, found func(api.Run)) {
	for i := range a {
		for j := range b {
			inLonger := i > 0 && j > 0 && a[i-1] == b[j-1]
			if a[i] != b[j] || inLonger {
				continue
			}
			if long := common(a[i:], b[j:]); long >= least {
				found(api.Run{A: i, B: j, Long: long})
			}
		}
	}
}

// common is how many words at the beginning of two lists are equal.
func common(a, b []int) int {
	n := 0
	for n < len(a) && n < len(b) && a[n] == b[n] {
		n++
	}
	return n
}

func overlap(a, b []int, least int) api.Fraction {
	inA, inB := make([]bool, len(a)), make([]bool, len(b))
	eachRun(a, b, least, func(r api.Run) {
		for k := range r.Long {
			inA[r.A+k], inB[r.B+k] = true, true
		}
	})
	f, g := share(inA), share(inB)
	if exact.Compare(f, g) < 0 {
		return g
	}
	return f
}

// share is how many of some are true; nothing of none.
func share(l []bool) api.Fraction {
	n := 0
	for _, is := range l {
		if is {
			n++
		}
	}
	return exact.Lowest(n, max(len(l), 1))
}

func compareTwins(a, b api.Twins) int {
	return cmp.Or(
		exact.Compare(b.Overlap, a.Overlap),
		strings.Compare(a.A, b.A),
		strings.Compare(a.B, b.B),
	)
}
