// Package discuss says what is talked about, and what is decided.
package discuss

import (
	"slices"

	"rebuttal/api"
	"rebuttal/marks"
	"rebuttal/syntax"
)

// tenths is how many parts of a mark the bounds of means are made of.
const tenths = 10

// CheckMarks validates marks.
func CheckMarks(l []api.Mark) api.Errno { return marks.Check(l, api.MaxMarks) }

// Mean is the mean of the marks of a paper.
func Mean(l []api.Mark, paper string) (api.Fraction, api.Errno) {
	scores, e := scoresOf(l)
	if e != api.OK {
		return api.Fraction{}, e
	}
	if !syntax.Key(paper) {
		return api.Fraction{}, api.ErrName
	}
	if len(scores[paper]) == 0 {
		return api.Fraction{}, api.ErrNone
	}
	return marks.Mean(scores[paper]), api.OK
}

// Talks are the papers that are talked about.
func Talks(r api.TalkRules, papers []string, l []api.Mark, replied []string) ([]api.Called, api.Errno) {
	if !areTalkRules(r) {
		return nil, api.ErrArg
	}
	if e := checkNames(papers); e != api.OK {
		return nil, e
	}
	scores, e := scoresOf(l)
	if e != api.OK {
		return nil, e
	}
	if e := checkNames(replied); e != api.OK {
		return nil, e
	}
	var called []api.Called
	for _, paper := range papers {
		_, isReplied := slices.BinarySearch(replied, paper)
		if why := reasons(r, scores[paper], isReplied); len(why) > 0 {
			called = append(called, api.Called{Paper: paper, Why: why})
		}
	}
	return called, api.OK
}

// areTalkRules reports whether rules are right.
func areTalkRules(r api.TalkRules) bool {
	spread := r.Spread >= 0 && r.Spread <= api.MaxScore
	middle := r.Middle.From >= 0 && r.Middle.From <= r.Middle.To && r.Middle.To <= tenths*api.MaxScore+1
	few := r.Few >= 0 && r.Few <= api.MaxEach+1
	return spread && middle && few
}

// checkNames is what is wrong with names of papers.
func checkNames(l []string) api.Errno { return syntax.Rising(l, api.MaxPapers) }

// scoresOf are the scores of each paper, rising, after the errors of CheckMarks.
func scoresOf(l []api.Mark) (map[string][]int, api.Errno) {
	if e := CheckMarks(l); e != api.OK {
		return nil, e
	}
	scores := map[string][]int{}
	for _, m := range l {
		scores[m.Paper] = append(scores[m.Paper], m.Score)
	}
	for _, s := range scores {
		slices.Sort(s)
	}
	return scores, api.OK
}

// reasons are those to talk about a paper with these scores, which rise.
func reasons(r api.TalkRules, scores []int, replied bool) []int {
	var why []int
	add := func(reason int, holds bool) {
		if holds {
			why = append(why, reason)
		}
	}
	many := len(scores)
	if many > 0 {
		mean := marks.Mean(scores)
		add(api.TalkSpread, r.Spread > 0 && scores[many-1]-scores[0] >= r.Spread)
		add(api.TalkMiddle, reaches(mean, r.Middle.From) && !reaches(mean, r.Middle.To))
	}
	add(api.TalkFew, many < r.Few)
	add(api.TalkReply, r.Reply && replied)
	return why
}

// reaches reports whether a mean is at least a bound in tenths.
func reaches(mean api.Fraction, bound int) bool { return tenths*mean.Num >= bound*mean.Den }
