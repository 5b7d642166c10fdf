package proceed

import (
	"cmp"
	"slices"

	"rebuttal/api"
	"rebuttal/exact"
)

// nobody is whom ballots belong to that rank no hopeful nominee any more.
const nobody = ""

// Quota is how many votes elect somebody.
func Quota(votes, seats int) (int, api.Errno) {
	if votes < 0 || votes > api.MaxVoters {
		return 0, api.ErrArg
	}
	if e := checkSeats(seats); e != api.OK {
		return 0, e
	}
	return quota(votes, seats), api.OK
}

// Elect is who is elected.
func Elect(nominees []string, seats int, l []api.Ballot) ([]string, api.Errno) {
	rounds, e := Rounds(nominees, seats, l)
	if e != api.OK {
		return nil, e
	}
	var elected []string
	for _, r := range rounds {
		elected = append(elected, r.Elected...)
	}
	return elected, api.OK
}

// Rounds are the rounds of an election.
func Rounds(nominees []string, seats int, l []api.Ballot) ([]api.Round, api.Errno) {
	if e := cmp.Or(CheckBallots(nominees, l), checkSeats(seats)); e != api.OK {
		return nil, e
	}
	x := newElection(nominees, seats, l)
	var rounds []api.Round
	for x.seats > 0 && len(x.hopeful) > 0 {
		rounds = append(rounds, x.round())
	}
	return rounds, api.OK
}

func checkSeats(seats int) api.Errno {
	if seats < 1 || seats > api.MaxSeats {
		return api.ErrArg
	}
	return api.OK
}

func quota(votes, seats int) int { return votes/(seats+1) + 1 }

// election is what there is between two rounds. Votes are counted in parts that are so small that all weights are whole. Somebody's votes are handed on at most twice before the last seat is taken, so a vote has at most 10^9 parts.
type election struct {
	ballots []api.Ballot
	weights []int // of each ballot
	parts   int   // of a vote
	quota   int   // votes
	hopeful []string
	seats   int // that are left
}

// newElection needs an election that is right.
func newElection(nominees []string, seats int, l []api.Ballot) *election {
	return &election{
		ballots: l,
		weights: slices.Repeat([]int{1}, len(l)),
		parts:   1,
		quota:   quota(voters(l), seats),
		hopeful: slices.Clone(nominees),
		seats:   seats,
	}
}

// round elects or drops somebody.
func (x *election) round() api.Round {
	owners := x.owners()
	votes := x.count(owners)
	r := api.Round{Lost: x.fraction(votes[nobody])}
	for _, nominee := range x.hopeful {
		r.Scores = append(r.Scores, api.Score{Nominee: nominee, Votes: x.fraction(votes[nominee])})
	}
	if len(x.hopeful) <= x.seats {
		r.Elected = slices.Clone(x.hopeful)
		x.seat(r.Elected)
		return r
	}
	r.Elected = x.reaching(votes)
	if len(r.Elected) == 0 {
		r.Dropped = x.weakest(votes)
		x.remove(r.Dropped)
		return r
	}
	x.seat(r.Elected)
	if x.seats > 0 {
		x.handOn(r.Elected, owners, votes)
	}
	return r
}

// owners says whom each ballot belongs to.
func (x *election) owners() []string {
	owners := slices.Repeat([]string{nobody}, len(x.ballots))
	for i, b := range x.ballots {
		if first := slices.IndexFunc(b.Ranks, x.isHopeful); first >= 0 {
			owners[i] = b.Ranks[first]
		}
	}
	return owners
}

func (x *election) isHopeful(nominee string) bool { return slices.Contains(x.hopeful, nominee) }

// count says what each one has, in parts of a vote.
func (x *election) count(owners []string) map[string]int {
	votes := map[string]int{}
	for i, b := range x.ballots {
		votes[owners[i]] += b.Many * x.weights[i]
	}
	return votes
}

func (x *election) fraction(parts int) api.Fraction { return exact.Lowest(parts, x.parts) }

// reaching are those who reach the quota, the one with the most votes first. There are never more of them than seats that are left, because a quota for each seat and for one more would be more than all votes.
func (x *election) reaching(votes map[string]int) []string {
	var l []string
	for _, nominee := range x.hopeful {
		if votes[nominee] >= x.quota*x.parts {
			l = append(l, nominee)
		}
	}
	slices.SortStableFunc(l, func(a, b string) int { return cmp.Compare(votes[b], votes[a]) })
	return l
}

// weakest is the last one of those with the fewest votes.
func (x *election) weakest(votes map[string]int) string {
	least := x.hopeful[0]
	for _, nominee := range x.hopeful {
		if votes[nominee] <= votes[least] {
			least = nominee
		}
	}
	return least
}

// seat gives seats to nominees who are hopeful.
func (x *election) seat(elected []string) {
	x.seats -= len(elected)
	x.remove(elected...)
}

// remove makes nominees no longer hopeful.
func (x *election) remove(nominees ...string) {
	x.hopeful = slices.DeleteFunc(x.hopeful, func(h string) bool { return slices.Contains(nominees, h) })
}

// handOn leaves to the ballots of each one who is elected the share that is above the quota. A vote then has as many times the parts as this one had, so that all weights stay whole.
func (x *election) handOn(elected, owners []string, votes map[string]int) {
	quota := x.quota * x.parts
	for _, nominee := range elected {
		had := votes[nominee]
		for i := range x.weights {
			if owners[i] == nominee {
				x.weights[i] *= had - quota
			} else {
				x.weights[i] *= had
			}
		}
		x.parts *= had
	}
}
