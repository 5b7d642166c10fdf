package topic

import (
	"slices"

	"rebuttal/api"
	"rebuttal/rings"
	"rebuttal/submit"
)

// Rings are circles of authors who want to read each other.
func Rings(papers []api.Paper, b []api.Bid) ([][]string, api.Errno) {
	if e := submit.CheckPapers(papers); e != api.OK {
		return nil, e
	}
	if e := CheckBids(b); e != api.OK {
		return nil, e
	}
	number := paperNumbers(papers)
	for _, bid := range b {
		if _, known := number[bid.Paper]; !known {
			return nil, api.ErrNone
		}
	}
	courts := map[string][]string{}
	for _, bid := range b {
		authors := papers[number[bid.Paper]].Authors
		if !isWish(bid.Level) || slices.Contains(authors, bid.Person) {
			continue
		}
		courts[bid.Person] = append(courts[bid.Person], authors...)
	}
	return rings.Of(courts), api.OK
}
