package program

import (
	"slices"

	"rebuttal/api"
)

// Agenda is what a person hears at best.
func Agenda(g api.Grid, p []api.Session, person string) ([]string, []api.Session, api.Errno) {
	x, e := newProgramme(g, p)
	if e != api.OK {
		return nil, nil, e
	}
	number := slices.IndexFunc(g.Wishes, func(w api.Wish) bool { return w.Person == person })
	if number < 0 {
		return nil, nil, api.ErrNone
	}
	offers := x.offers(number)
	if len(offers) > api.MaxAgenda {
		return nil, nil, api.ErrLarge
	}
	var papers []string
	var sessions []api.Session
	for _, o := range x.choose(offers) {
		papers = append(papers, x.papers(o.wished)...)
		sessions = append(sessions, x.session(o.place))
	}
	slices.Sort(papers)
	return papers, sessions, api.OK
}

// offer is a session, and what somebody wishes to hear there.
type offer struct {
	place  int
	wished []int
}

// offers are the sessions with something that a person wishes, in order.
func (x programme) offers(person int) []offer {
	var l []offer
	for _, place := range x.taken() {
		o := offer{place: place}
		for _, talk := range x.layout[place] {
			if x.wishers[talk].has(person) {
				o.wished = append(o.wished, talk)
			}
		}
		if len(o.wished) > 0 {
			l = append(l, o)
		}
	}
	return l
}

// choose are the offers that somebody takes. It comes to lesser lists before greater ones, so of equal ones the least stays.
func (x programme) choose(offers []offer) []offer {
	var best, now []offer
	most := 0
	var add func(rest []offer, many int)
	add = func(rest []offer, many int) {
		if many > most || many == most && len(now) < len(best) {
			best, most = slices.Clone(now), many
		}
		for i, o := range rest {
			if slices.ContainsFunc(now, func(other offer) bool { return x.overlap(o.place, other.place) }) {
				continue
			}
			now = append(now, o)
			add(rest[i+1:], many+len(o.wished))
			now = now[:len(now)-1]
		}
	}
	add(offers, 0)
	return best
}
