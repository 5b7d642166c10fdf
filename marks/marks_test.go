package marks

import (
	"fmt"
	"slices"
	"testing"

	"rebuttal/api"
)

func mark(paper, person string, score int) api.Mark {
	return api.Mark{Pair: api.Pair{Paper: paper, Person: person}, Score: score}
}

// of are so many marks of a paper.
func of(paper string, n int) []api.Mark {
	var l []api.Mark
	for i := range n {
		l = append(l, mark(paper, fmt.Sprintf("k%04d", i), i%11))
	}
	return l
}

// P6.1, P7.1: marks.
func TestCheck(t *testing.T) {
	for _, c := range []struct {
		l        []api.Mark
		perPaper int
		want     api.Errno
	}{
		{nil, 0, api.OK},
		{of("p", 3), 3, api.OK},
		{of("p", 3), 2, api.ErrLarge},
		{slices.Concat(of("p", 3), of("q", 3)), 3, api.OK},
		{slices.Concat(of("p", 2), of("q", 3), of("r", 1)), 2, api.ErrLarge},
		{of("p", api.MaxMarks), api.MaxMarks, api.OK},
		{of("p", api.MaxMarks+1), api.MaxMarks + 1, api.ErrLarge},
		{slices.Repeat([]api.Mark{mark("P", "a", -1)}, api.MaxMarks+1), 1, api.ErrLarge},
		{slices.Repeat([]api.Mark{mark("P", "a", -1)}, api.MaxMarks), 1, api.ErrName},
		{[]api.Mark{mark("P", "a", 11)}, 0, api.ErrName},
		{[]api.Mark{mark("p", "", 11)}, 0, api.ErrName},
		{[]api.Mark{mark("p", "a", 11)}, 0, api.ErrArg},
		{[]api.Mark{mark("p", "a", -1)}, 1, api.ErrArg},
		{[]api.Mark{mark("p", "b", 1), mark("p", "a", 11)}, 1, api.ErrOrder},
		{[]api.Mark{mark("p", "b", 1), mark("p", "b", 11)}, 2, api.ErrOrder},
		{[]api.Mark{mark("q", "b", 1), mark("p", "c", 1)}, 2, api.ErrOrder},
		{[]api.Mark{mark("p", "b", 1), mark("p", "c", 11)}, 1, api.ErrArg},
		{[]api.Mark{mark("p", "b", 1), mark("p", "c", 1), mark("P", "c", 1)}, 1, api.ErrLarge},
	} {
		if e := Check(c.l, c.perPaper); e != c.want {
			t.Errorf("%d marks, %.3v, %d: got %d, want %d", len(c.l), c.l[:min(3, len(c.l))], c.perPaper, e, c.want)
		}
	}
}

// P6.1, P7.1: means.
func TestMean(t *testing.T) {
	for _, c := range []struct {
		scores        []int
		sum, num, den int
	}{
		{[]int{0}, 0, 0, 1},
		{[]int{10}, 10, 10, 1},
		{[]int{7, 8}, 15, 15, 2},
		{[]int{4, 6, 8, 2}, 20, 5, 1},
		{[]int{9, 0, 0, 0, 0, 0}, 9, 3, 2},
	} {
		if s, f := Sum(c.scores), Mean(c.scores); s != c.sum || f != (api.Fraction{Num: c.num, Den: c.den}) {
			t.Error(c.scores, s, f)
		}
	}
	if Sum(nil) != 0 {
		t.Error("nothing has the sum 0")
	}
}
