// Package papers has what all chapters share of papers with authors (P1.5 and P5.2 of the document).
package papers

import (
	"slices"

	"rebuttal/api"
	"rebuttal/syntax"
)

// Check is what is wrong with papers. What is wrong with an author alone is known to the caller.
func Check(l []api.Paper, author func(string) api.Errno) api.Errno {
	if len(l) > api.MaxPapers {
		return api.ErrLarge
	}
	last := ""
	for _, p := range l {
		if e := check(p, last, author); e != api.OK {
			return e
		}
		last = p.Id
	}
	return api.OK
}

// check validates a paper that comes after the one with the id last.
func check(p api.Paper, last string, author func(string) api.Errno) api.Errno {
	if !syntax.Key(p.Id) || !syntax.Key(p.Track) {
		return api.ErrName
	}
	if p.Id <= last {
		return api.ErrOrder
	}
	if !syntax.Label(p.Title, api.MaxTitle) {
		return api.ErrForm
	}
	if e := checkAuthors(p.Authors, author); e != api.OK {
		return e
	}
	return syntax.Rising(p.Topics, api.MaxTopics)
}

func checkAuthors(l []string, author func(string) api.Errno) api.Errno {
	if len(l) == 0 {
		return api.ErrForm
	}
	if len(l) > api.MaxAuthors {
		return api.ErrLarge
	}
	for i, key := range l {
		if e := author(key); e != api.OK {
			return e
		}
		if slices.Contains(l[:i], key) {
			return api.ErrTwice
		}
	}
	return api.OK
}
