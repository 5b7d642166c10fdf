// Package submit says which papers there are, and what is wrong with their texts.
package submit

import (
	"rebuttal/api"
	"rebuttal/syntax"
)

// CheckPaper validates a paper.
func CheckPaper(p api.Paper) api.Errno {
	if !syntax.Key(p.Id) || !syntax.Key(p.Track) {
		return api.ErrName
	}
	if len(p.Title) > api.MaxTitle {
		return api.ErrLarge
	}
	if !syntax.Label(p.Title, api.MaxTitle) {
		return api.ErrForm
	}
	if e := checkAuthors(p.Authors); e != api.OK {
		return e
	}
	return syntax.Rising(p.Topics, api.MaxTopics)
}

// CheckPapers validates papers.
func CheckPapers(l []api.Paper) api.Errno {
	if len(l) > api.MaxPapers {
		return api.ErrLarge
	}
	last := ""
	for _, p := range l {
		if e := CheckPaper(p); e != api.OK {
			return e
		}
		if p.Id <= last {
			return api.ErrOrder
		}
		last = p.Id
	}
	return api.OK
}

func checkAuthors(l []string) api.Errno {
	if len(l) == 0 {
		return api.ErrNone
	}
	return syntax.Distinct(l, api.MaxAuthors)
}
