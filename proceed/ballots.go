package proceed

import (
	"cmp"
	"slices"

	"rebuttal/api"
	"rebuttal/index"
	"rebuttal/syntax"
)

// CheckBallots validates nominees and ballots.
func CheckBallots(nominees []string, l []api.Ballot) api.Errno {
	if len(nominees) == 0 {
		return api.ErrForm
	}
	if e := syntax.Rising(nominees, api.MaxNominee); e != api.OK {
		return e
	}
	number := index.Of(nominees, func(key string) string { return key })
	e := syntax.Each(l, api.MaxBallot, func(b api.Ballot) api.Errno {
		if b.Many < 1 || b.Many > api.MaxVoters {
			return api.ErrArg
		}
		return index.Distinct(number, b.Ranks)
	})
	if e != api.OK {
		return e
	}
	if voters(l) > api.MaxVoters {
		return api.ErrLarge
	}
	return api.OK
}

// Beats is how many votes one is before another one.
func Beats(nominees []string, l []api.Ballot, a, b string) (int, api.Errno) {
	if e := CheckBallots(nominees, l); e != api.OK {
		return 0, e
	}
	for _, key := range []string{a, b} {
		if !slices.Contains(nominees, key) {
			return 0, api.ErrNone
		}
	}
	return beats(l, a, b), api.OK
}

// Winner is who beats all others.
func Winner(nominees []string, l []api.Ballot) (string, bool, api.Errno) {
	if e := CheckBallots(nominees, l); e != api.OK {
		return "", false, e
	}
	for _, a := range nominees {
		if !slices.ContainsFunc(nominees, func(b string) bool { return b != a && beats(l, a, b) <= 0 }) {
			return a, true, api.OK
		}
	}
	return "", false, api.OK
}

// voters is how many there are.
func voters(l []api.Ballot) int {
	many := 0
	for _, b := range l {
		many += b.Many
	}
	return many
}

// beats is Beats of ballots that are right.
func beats(l []api.Ballot, a, b string) int {
	votes := 0
	for _, x := range l {
		votes += x.Many * cmp.Compare(rank(x, b), rank(x, a))
	}
	return votes
}

// rank is the place of a nominee on a ballot; all who are not on it have the one behind the last.
func rank(b api.Ballot, nominee string) int {
	if i := slices.Index(b.Ranks, nominee); i >= 0 {
		return i
	}
	return len(b.Ranks)
}
