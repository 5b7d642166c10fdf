package discuss

import (
	"cmp"
	"maps"
	"slices"
	"strings"

	"rebuttal/api"
	"rebuttal/exact"
	"rebuttal/marks"
	"rebuttal/papers"
	"rebuttal/syntax"
)

// unmarked is what a paper without marks has where others have a mark.
const unmarked = -1

// Order says which one of two papers is better.
func Order(r api.DecideRules, l []api.Mark, a, b string) (int, api.Errno) {
	if e := checkDecideRules(r); e != api.OK {
		return 0, e
	}
	scores, e := scoresOf(l)
	if e != api.OK {
		return 0, e
	}
	if e := cmp.Or(syntax.CheckKey(a), syntax.CheckKey(b)); e != api.OK {
		return 0, e
	}
	return compare(judge(r, a, scores[a]), judge(r, b, scores[b])), api.OK
}

// Decide says what becomes of papers.
func Decide(r api.DecideRules, quotas []api.Quota, papers []api.Paper, l []api.Mark) ([]api.Decision, api.Errno) {
	tracks, e := decide(r, quotas, papers, l)
	if e != api.OK {
		return nil, e
	}
	decisions := slices.Concat(slices.Collect(maps.Values(tracks))...)
	slices.SortFunc(decisions, func(a, b api.Decision) int { return strings.Compare(a.Paper, b.Paper) })
	return decisions, api.OK
}

// Nearly are the last paper that is taken, and the first one that is not, of each track.
func Nearly(r api.DecideRules, quotas []api.Quota, papers []api.Paper, l []api.Mark) ([]api.Pair, api.Errno) {
	tracks, e := decide(r, quotas, papers, l)
	if e != api.OK {
		return nil, e
	}
	var nearly []api.Pair
	for _, q := range quotas {
		var taken, refused string
		for _, d := range tracks[q.Track] {
			if d.Yes {
				taken = d.Paper
			} else if refused == "" {
				refused = d.Paper
			}
		}
		if taken != "" && refused != "" {
			nearly = append(nearly, api.Pair{Paper: taken, Person: refused})
		}
	}
	return nearly, api.OK
}

func checkDecideRules(r api.DecideRules) api.Errno {
	if len(r.By) == 0 {
		return api.ErrForm
	}
	for i, crit := range r.By {
		if crit < api.CritMean || crit > api.CritMiddle {
			return api.ErrKind
		}
		if slices.Contains(r.By[:i], crit) {
			return api.ErrTwice
		}
	}
	if r.Floor < 0 || r.Floor > tenths*api.MaxScore {
		return api.ErrArg
	}
	return api.OK
}

func checkQuotas(l []api.Quota) api.Errno {
	track := func(q api.Quota) string { return q.Track }
	return syntax.RisingBy(l, api.MaxQuotas, track, func(q api.Quota) api.Errno {
		if q.Most < 0 || q.Most > api.MaxPapers {
			return api.ErrArg
		}
		return api.OK
	})
}

// decide are the decisions on the papers of each track, the best paper first.
func decide(r api.DecideRules, quotas []api.Quota, list []api.Paper, l []api.Mark) (map[string][]api.Decision, api.Errno) {
	if e := cmp.Or(checkDecideRules(r), checkQuotas(quotas), papers.Check(list, syntax.CheckKey)); e != api.OK {
		return nil, e
	}
	scores, e := scoresOf(l)
	if e != api.OK {
		return nil, e
	}
	most := map[string]int{}
	for _, q := range quotas {
		most[q.Track] = q.Most
	}
	tracks := map[string][]judged{}
	for _, p := range list {
		tracks[p.Track] = append(tracks[p.Track], judge(r, p.Id, scores[p.Id]))
	}
	decisions := map[string][]api.Decision{}
	for track, rivals := range tracks {
		slices.SortFunc(rivals, compare)
		for i, j := range rivals {
			rank := i + 1
			decisions[track] = append(decisions[track], api.Decision{Paper: j.id, Yes: j.enough && rank <= most[track], Rank: rank})
		}
	}
	return decisions, api.OK
}

// judged is a paper, what it is compared by, one after the other, and whether its marks are enough for it to be taken.
type judged struct {
	id     string
	values []api.Fraction
	enough bool
}

// judge is a paper with these scores, which rise.
func judge(r api.DecideRules, id string, scores []int) judged {
	j := judged{id: id, enough: len(scores) > 0 && reaches(marks.Mean(scores), r.Floor)}
	for _, crit := range r.By {
		j.values = append(j.values, value(crit, scores))
	}
	return j
}

// value is what a paper with these scores, which rise, has by a criterion.
func value(crit int, scores []int) api.Fraction {
	many := len(scores)
	switch {
	case crit == api.CritMany:
		return exact.Whole(many)
	case many == 0:
		return exact.Whole(unmarked)
	case crit == api.CritMean:
		return marks.Mean(scores)
	case crit == api.CritLeast:
		return exact.Whole(scores[0])
	case crit == api.CritGreatest:
		return exact.Whole(scores[many-1])
	}
	return exact.Whole(scores[(many-1)/2])
}

// compare is below 0 if the first paper is better.
func compare(a, b judged) int {
	return cmp.Or(slices.CompareFunc(b.values, a.values, exact.Compare), strings.Compare(a.id, b.id))
}
