package proceed_test

import (
	"fmt"
	"math"
	"math/big"
	"slices"
	"strings"
	"testing"

	"rebuttal/api"
	"rebuttal/proceed"
)

// written writes rounds: the scores, what nobody has, who is elected, and who is dropped.
func written(rounds []api.Round) string {
	var lines []string
	for _, r := range rounds {
		line := ""
		for _, s := range r.Scores {
			line += fmt.Sprintf("%s %d/%d ", s.Nominee, s.Votes.Num, s.Votes.Den)
		}
		line += fmt.Sprintf("- %d/%d", r.Lost.Num, r.Lost.Den)
		for _, nominee := range r.Elected {
			line += " +" + nominee
		}
		if r.Dropped != "" {
			line += " !" + r.Dropped
		}
		lines = append(lines, strings.ReplaceAll(line, "/1 ", " "))
	}
	return strings.Join(lines, ", ")
}

// P9.6: rounds of elections.
func TestRounds(t *testing.T) {
	for i, c := range []struct {
		nominees string
		seats    int
		l        []api.Ballot
		want     string
		elected  string
	}{
		{"a b c", 2, ballots("6 a b", "4 b"), "a 6 b 4 c 0 - 0 +a +b", "a b"},
		{"a b c", 2, ballots("6 a c", "2 b"), "a 6 b 2 c 0 - 0 +a, b 2 c 3 - 0 +c", "a c"},
		// No more nominees than seats.
		{"a", 3, nil, "a 0 - 0 +a", "a"},
		{"a b", 2, ballots("3 b", "1"), "a 0 b 3 - 1 +a +b", "a b"},
		{"a b c", 3, ballots("3 b a", "5 c"), "a 0 b 3 c 5 - 0 +a +b +c", "a b c"},
		// No ballots: the greater one of equal ones is dropped.
		{"a b c d", 2, nil, "a 0 b 0 c 0 d 0 - 0 !d, a 0 b 0 c 0 - 0 !c, a 0 b 0 - 0 +a +b", "a b"},
		// Exactly the quota, and one vote less.
		{"a b", 1, ballots("2 b", "1 a"), "a 1 b 2 - 0 +b", "b"},
		{"a b", 1, ballots("2 b", "2 a"), "a 2 b 2 - 0 !b, a 2 - 2 +a", "a"},
		{"a b", 1, ballots("2 b", "1 a", "1"), "a 1 b 2 - 1 !a, b 2 - 2 +b", "b"},
		// Those who are elected at once: the most votes first, of equal ones the lesser nominee.
		{"a b c d", 2, ballots("4 d", "4 b", "1 a"), "a 1 b 4 c 0 d 4 - 0 +b +d", "b d"},
		{"a b c d", 3, ballots("4 d", "5 b", "4 a"), "a 4 b 5 c 0 d 4 - 0 +b +a +d", "b a d"},
		// A ballot without ranks counts for the quota.
		{"a b c", 1, ballots("3 a", "2 b c", "1 c", "1"), "a 3 b 2 c 1 - 1 !c, a 3 b 2 - 2 !b, a 3 - 4 +a", "a"},
		// Those who are dropped hand on whole votes.
		{"a b c", 1, ballots("4 a", "3 b", "2 c b"), "a 4 b 3 c 2 - 0 !c, a 4 b 5 - 0 +b", "b"},
		// What is above the quota is handed on, also to those who come third, and it is lost where nobody comes.
		{"a b c d", 2, ballots("5 a b c", "4 a", "1 b", "2 c"), "a 9 b 1 c 2 d 0 - 0 +a, b 29/9 c 2 d 0 - 16/9 !d, b 29/9 c 2 - 16/9 !c, b 29/9 - 34/9 +b", "a b"},
		// Whoever has exactly the quota hands on nothing.
		{"a b c", 2, ballots("2 a b", "2 b c", "1 c"), "a 2 b 2 c 1 - 0 +a +b", "a b"},
		{"a b c d", 3, ballots("3 a c", "3 b d", "2 c", "2 d"), "a 3 b 3 c 2 d 2 - 0 +a +b, c 2 d 2 - 0 !d, c 2 - 2 +c", "a b c"},
		// Two hand on in one round.
		{"a b c d", 3, ballots("5 a c", "7 b d", "1 c", "2 d"), "a 5 b 7 c 1 d 2 - 0 +b +a, c 2 d 5 - 0 +d", "b a d"},
		{"a b c d", 3, ballots("5 a c", "2 a d", "9 b d", "2 c", "2 d", "1"), "a 7 b 9 c 2 d 2 - 1 +b +a, c 19/7 d 37/7 - 1 !c, d 37/7 - 26/7 +d", "b a d"},
		// Votes that were handed on are handed on again.
		{"a b c d", 3, ballots("15 a b c", "3 b d", "2 d", "1 c"), "a 15 b 3 c 1 d 2 - 0 +a, b 12 c 1 d 2 - 0 +b, c 11/2 d 7/2 - 0 !d, c 11/2 - 7/2 +c", "a b c"},
	} {
		rounds, e := proceed.Rounds(words(c.nominees), c.seats, c.l)
		is(t, e, api.OK)
		if got := written(rounds); got != c.want {
			t.Errorf("%d: got  %s, want %s", i, got, c.want)
		}
		is(t, pack(proceed.Elect(words(c.nominees), c.seats, c.l)), all(words(c.elected), api.OK))
	}
}

// P9.6: the errors of elections, in order.
func TestWrongElections(t *testing.T) {
	type election struct {
		poll
		seats int
	}
	for _, check := range []func(election) api.Errno{
		func(x election) api.Errno {
			rounds, e := proceed.Rounds(x.nominees, x.seats, x.ballots)
			is(t, len(rounds) > 0, e == api.OK)
			return e
		},
		func(x election) api.Errno {
			elected, e := proceed.Elect(x.nominees, x.seats, x.ballots)
			is(t, len(elected) > 0, e == api.OK)
			return e
		},
	} {
		climb(t, election{poll{nil, ballots("0 ?")}, 4}, check, []rung[election]{
			{api.ErrForm, func(x *election) { x.nominees = words("a b") }},
			{api.ErrArg, func(x *election) { x.ballots[0].Many = 1 }},
			{api.ErrNone, func(x *election) { x.ballots = nil }},
			{api.ErrArg, func(x *election) { x.seats = 0 }},
			{api.ErrArg, func(x *election) { x.seats = -1 }},
			{api.ErrArg, func(x *election) { x.seats = math.MaxInt }},
			{api.ErrArg, func(x *election) { x.seats = math.MinInt }},
			{api.ErrArg, func(x *election) { x.seats = 1 }},
		})
	}
}

func rat(n int) *big.Rat { return big.NewRat(int64(n), 1) }

func fraction(r *big.Rat) api.Fraction {
	return api.Fraction{Num: int(r.Num().Int64()), Den: int(r.Denom().Int64())}
}

// plainRounds counts with fractions of any size.
func plainRounds(nominees []string, seats int, l []api.Ballot) []api.Round {
	hopeful := slices.Clone(nominees)
	weights := make([]*big.Rat, len(l))
	votes := 0
	for i, b := range l {
		weights[i] = rat(1)
		votes += b.Many
	}
	q := rat(votes/(seats+1) + 1)
	var rounds []api.Round
	for elected := 0; elected < seats && len(hopeful) > 0; {
		has, owners := plainCount(hopeful, weights, l)
		r := api.Round{Lost: fraction(has["nobody"])}
		for _, nominee := range hopeful {
			r.Scores = append(r.Scores, api.Score{Nominee: nominee, Votes: fraction(has[nominee])})
		}
		byVotes := slices.Clone(hopeful)
		slices.SortStableFunc(byVotes, func(a, b string) int { return has[b].Cmp(has[a]) })
		switch {
		case len(hopeful) <= seats-elected:
			r.Elected = slices.Clone(hopeful)
		case has[byVotes[0]].Cmp(q) < 0:
			r.Dropped = byVotes[len(byVotes)-1]
		default:
			for _, nominee := range byVotes {
				if has[nominee].Cmp(q) >= 0 && elected+len(r.Elected) < seats {
					r.Elected = append(r.Elected, nominee)
				}
			}
		}
		for i, owner := range owners {
			if slices.Contains(r.Elected, owner) && has[owner].Sign() > 0 {
				left := new(big.Rat).Sub(has[owner], q)
				weights[i].Mul(weights[i], left.Quo(left, has[owner]))
			}
		}
		elected += len(r.Elected)
		hopeful = slices.DeleteFunc(hopeful, func(h string) bool { return h == r.Dropped || slices.Contains(r.Elected, h) })
		rounds = append(rounds, r)
	}
	return rounds
}

// plainCount says what each one has, and whose each ballot is.
func plainCount(hopeful []string, weights []*big.Rat, l []api.Ballot) (map[string]*big.Rat, []string) {
	has := map[string]*big.Rat{"nobody": rat(0)}
	for _, nominee := range hopeful {
		has[nominee] = rat(0)
	}
	owners := make([]string, len(l))
	for i, b := range l {
		owners[i] = "nobody"
		for _, nominee := range slices.Backward(b.Ranks) {
			if slices.Contains(hopeful, nominee) {
				owners[i] = nominee
			}
		}
		has[owners[i]].Add(has[owners[i]], new(big.Rat).Mul(rat(b.Many), weights[i]))
	}
	return has, owners
}

// checkElection compares an election with the plain one, and holds the sums of all rounds against the ballots.
func checkElection(t *testing.T, x poll, seats int) []api.Round {
	t.Helper()
	rounds, e := proceed.Rounds(x.nominees, seats, x.ballots)
	is(t, all(rounds, e), all(plainRounds(x.nominees, seats, x.ballots), api.OK))
	votes := 0
	for _, b := range x.ballots {
		votes += b.Many
	}
	q, _ := proceed.Quota(votes, seats)
	var elected []string
	for _, r := range rounds {
		sum := rat(q * len(elected))
		sum.Add(sum, big.NewRat(int64(r.Lost.Num), int64(r.Lost.Den)))
		for _, s := range r.Scores {
			sum.Add(sum, big.NewRat(int64(s.Votes.Num), int64(s.Votes.Den)))
			is(t, s.Votes.Num >= 0 && s.Votes.Den > 0 && s.Votes.Den <= 1_000_000_000, true)
		}
		is(t, sum.RatString(), fmt.Sprint(votes))
		elected = append(elected, r.Elected...)
	}
	is(t, len(elected), min(seats, len(x.nominees)))
	is(t, pack(proceed.Elect(x.nominees, seats, x.ballots)), all(elected, api.OK))
	return rounds
}

// P9.6: elections as the document has them.
func TestRoundsPlainly(t *testing.T) {
	d := dice(29)
	for range 3000 {
		x := d.poll(t)
		for seats := 1; seats <= api.MaxSeats; seats++ {
			checkElection(t, x, seats)
		}
	}
}

// P9.6: fractions with the greatest denominators.
func TestGreatFractions(t *testing.T) {
	n := words("a b c d e")
	greatest := 0
	for _, l := range [][]api.Ballot{
		ballots("700 a b c", "297 a c", "3 d"),
		ballots("701 a b c", "290 a d", "1 d", "7 b e"),
		ballots("600 a b c d", "397 a b d", "2 b e", "1 b"),
		ballots("797 a b c", "200 a e", "2 b d", "1 e"),
		ballots("811 a b c", "186 a", "2 b d", "1"),
		ballots("1 a b e", "809 a b c", "187 a e", "3 b d"),
	} {
		for _, r := range checkElection(t, poll{n, l}, api.MaxSeats) {
			for _, s := range r.Scores {
				greatest = max(greatest, s.Votes.Den)
			}
		}
	}
	is(t, greatest > 500_000_000, true)
	// As many ballots as there can be.
	d := dice(31)
	for range 100 {
		x := poll{nominees: keys(api.MaxNominee)}
		for range api.MaxBallot {
			// Most like the first ones.
			ranks := shuffled(&d, x.nominees[d.below(4):])
			x.ballots = append(x.ballots, api.Ballot{Many: 1 + d.below(5), Ranks: ranks})
		}
		checkElection(t, x, api.MaxSeats)
	}
}
