package proceed_test

import (
	"math"
	"slices"
	"strings"
	"testing"

	"rebuttal/api"
	"rebuttal/proceed"
)

// poll is nominees and ballots.
type poll struct {
	nominees []string
	ballots  []api.Ballot
}

func (x poll) check() api.Errno { return proceed.CheckBallots(x.nominees, x.ballots) }

// words are those of a string.
func words(s string) []string { return strings.Fields(s) }

// P9.5: nominees and ballots, their errors in order.
func TestCheckBallots(t *testing.T) {
	wrong := slices.Repeat([]api.Ballot{{Ranks: []string{"?"}}}, api.MaxBallot+1)
	ballot := func(i int, change func(*api.Ballot)) func(*poll) {
		return func(x *poll) { change(&x.ballots[i]) }
	}
	climb(t, poll{nil, wrong}, poll.check, []rung[poll]{
		{api.ErrForm, func(x *poll) { x.nominees = words("A A A A A A A A A") }},
		{api.ErrLarge, func(x *poll) { x.nominees = words("a c C b") }},
		{api.ErrName, func(x *poll) { x.nominees[2] = "b" }},
		{api.ErrOrder, func(x *poll) { x.nominees[2] = "c" }},
		{api.ErrOrder, func(x *poll) { x.nominees[2] = "d" }},
		{api.ErrOrder, func(x *poll) { x.nominees[3] = "E" }},
		{api.ErrName, func(x *poll) { x.nominees[3] = "e" }},
		{api.ErrLarge, func(x *poll) { x.ballots = slices.Clone(x.ballots[:2]) }},
		{api.ErrArg, ballot(0, func(b *api.Ballot) { b.Many = api.MaxVoters + 1 })},
		{api.ErrArg, ballot(0, func(b *api.Ballot) { b.Many = api.MaxVoters })},
		{api.ErrNone, ballot(0, func(b *api.Ballot) { b.Ranks = words("a e a b ?") })},
		{api.ErrTwice, ballot(0, func(b *api.Ballot) { b.Ranks = words("a e b ? a") })},
		{api.ErrNone, ballot(0, func(b *api.Ballot) { b.Ranks = words("a e c d") })},
		{api.ErrArg, ballot(1, func(b *api.Ballot) { b.Many = 1 })},
		{api.ErrNone, ballot(1, func(b *api.Ballot) { b.Ranks = nil })},
		{api.ErrLarge, ballot(0, func(b *api.Ballot) { b.Many-- })},
	})
}

// P9.5: what nominees and ballots can be made of.
func TestBallotBounds(t *testing.T) {
	for _, x := range []poll{
		{words("a"), nil},
		{keys(api.MaxNominee), ballots("1 k0007 k0000")},
		{words("a b"), slices.Repeat(ballots("3 b"), api.MaxBallot)},
		{words("a b"), ballots("1000 b a")},
		{words("a b"), ballots("1 b a", "1", "998")},
	} {
		is(t, x.check(), api.OK)
	}
	for _, key := range badKeys {
		is(t, proceed.CheckBallots([]string{key}, nil), api.ErrName)
		is(t, proceed.CheckBallots([]string{"a", key}, nil), api.ErrName)
		is(t, proceed.CheckBallots(words("a b"), []api.Ballot{{Many: 1, Ranks: []string{"a", key}}}), api.ErrNone)
	}
	for n, want := range map[int]api.Errno{1: api.OK, api.MaxVoters: api.OK, 0: api.ErrArg, -1: api.ErrArg, api.MaxVoters + 1: api.ErrArg, math.MinInt: api.ErrArg, math.MaxInt: api.ErrArg} {
		is(t, proceed.CheckBallots(words("a"), []api.Ballot{{Many: n}}), want)
	}
	is(t, proceed.CheckBallots(keys(api.MaxNominee+1), nil), api.ErrLarge)
	is(t, proceed.CheckBallots(words("a"), slices.Repeat(ballots("1"), api.MaxBallot+1)), api.ErrLarge)
	is(t, proceed.CheckBallots(words("a b"), ballots("1 c")), api.ErrNone)
	is(t, proceed.CheckBallots(words("a b"), ballots("1 b b")), api.ErrTwice)
	is(t, proceed.CheckBallots(words("a b"), ballots("500 b", "500", "1 a")), api.ErrLarge)
	is(t, proceed.CheckBallots(words("a b"), ballots("500 b", "501", "1 c")), api.ErrNone)
}

// P9.5: how many votes elect somebody.
func TestQuota(t *testing.T) {
	for _, c := range []struct {
		votes, seats, want int
		e                  api.Errno
	}{
		{10, 2, 4, api.OK}, {0, 1, 1, api.OK}, {1, 1, 1, api.OK}, {2, 1, 2, api.OK}, {3, 1, 2, api.OK}, {3, 3, 1, api.OK}, {4, 3, 2, api.OK},
		{1000, 1, 501, api.OK}, {1000, 2, 334, api.OK}, {1000, 3, 251, api.OK}, {999, 3, 250, api.OK},
		{-1, 1, 0, api.ErrArg}, {1001, 1, 0, api.ErrArg}, {10, 0, 0, api.ErrArg}, {10, 4, 0, api.ErrArg}, {10, -1, 0, api.ErrArg},
		{math.MinInt, 1, 0, api.ErrArg}, {math.MaxInt, 1, 0, api.ErrArg}, {1, math.MinInt, 0, api.ErrArg}, {1, math.MaxInt, 0, api.ErrArg},
	} {
		is(t, pack(proceed.Quota(c.votes, c.seats)), all(c.want, c.e))
	}
}

// plainBeats looks at each ballot.
func plainBeats(l []api.Ballot, a, b string) int {
	votes := 0
	for _, x := range l {
		i, j := slices.Index(x.Ranks, a), slices.Index(x.Ranks, b)
		if i >= 0 && (j > i || j < 0) {
			votes += x.Many
		}
		if j >= 0 && (i > j || i < 0) {
			votes -= x.Many
		}
	}
	return votes
}

// P9.7: who is before whom on how many ballots.
func TestBeats(t *testing.T) {
	n, l := words("a b c d"), ballots("6 a b", "4 b", "1 c a", "7", "2 b c a")
	for pair, want := range map[string]int{"a b": 1, "b a": -1, "a c": 6 - 1 - 2, "c a": -3, "b c": 6 + 4 + 2 - 1, "a d": 9, "d b": -12, "a a": 0, "d d": 0} {
		w := words(pair)
		is(t, pack(proceed.Beats(n, l, w[0], w[1])), all(want, api.OK))
	}
	for _, pair := range [][2]string{{"a", "x"}, {"x", "a"}, {"x", "x"}, {"", "a"}, {"a", ""}, {"A", "a"}} {
		is(t, pack(proceed.Beats(n, l, pair[0], pair[1])), all(0, api.ErrNone))
	}
	is(t, pack(proceed.Beats(nil, l, "x", "x")), all(0, api.ErrForm))
	is(t, pack(proceed.Beats(n, ballots("0"), "x", "x")), all(0, api.ErrArg))
}

// P9.7: who beats all others.
func TestWinner(t *testing.T) {
	for _, c := range []struct {
		nominees string
		l        []api.Ballot
		want     string
		ok       bool
	}{
		{"a b c", ballots("6 a c", "2 b"), "a", true},
		{"a b c", ballots("3 a b c", "3 c b a", "1 b"), "b", true},
		{"a b c", ballots("2 a b c", "2 b c a", "2 c a b"), "", false},
		{"a b", ballots("2 a", "2 b"), "", false},
		{"a b", ballots("2 a", "3 b"), "b", true},
		{"a b", nil, "", false},
		{"a b", ballots("9"), "", false},
		{"a", nil, "a", true},
		{"z", ballots("3", "1 z"), "z", true},
		{"a b c", ballots("1 a", "1 a b"), "a", true},
		{"a b c", ballots("2 c", "1 b c"), "c", true},
		{"a b c", ballots("1 c", "1 b c"), "", false},
	} {
		is(t, pack3(proceed.Winner(words(c.nominees), c.l)), all(c.want, c.ok, api.OK))
	}
	is(t, pack3(proceed.Winner(nil, nil)), all("", false, api.ErrForm))
	is(t, pack3(proceed.Winner(words("a b"), ballots("1 c"))), all("", false, api.ErrNone))
}

// poll has few ballots, so that there are many that are equal.
func (d *dice) poll(t *testing.T) poll {
	t.Helper()
	var x poll
	for _, key := range words("a b c d e f g h") {
		if d.below(2) == 0 {
			x.nominees = append(x.nominees, key)
		}
	}
	if len(x.nominees) == 0 {
		x.nominees = words("z")
	}
	most := []int{2, 7, 40}[d.below(3)]
	for range d.below(15) {
		ranks := shuffled(d, x.nominees)
		x.ballots = append(x.ballots, api.Ballot{Many: 1 + d.below(most), Ranks: ranks[:d.below(len(ranks)+1)]})
	}
	is(t, x.check(), api.OK)
	return x
}

// P9.7: Beats and Winner as the document has them. Beats of b and a is minus that of a and b.
func TestBeatsPlainly(t *testing.T) {
	d := dice(23)
	winners := 0
	for range 1000 {
		x := d.poll(t)
		winner := ""
		for _, a := range x.nominees {
			beaten := 0
			for _, b := range x.nominees {
				votes, e := proceed.Beats(x.nominees, x.ballots, a, b)
				is(t, all(votes, e), all(plainBeats(x.ballots, a, b), api.OK))
				is(t, pack(proceed.Beats(x.nominees, x.ballots, b, a)), all(-votes, api.OK))
				if a != b && votes > 0 {
					beaten++
				}
			}
			if beaten == len(x.nominees)-1 {
				winner = a
				winners++
			}
		}
		is(t, pack3(proceed.Winner(x.nominees, x.ballots)), all(winner, winner != "", api.OK))
	}
	is(t, winners > 200 && winners < 950, true)
}
