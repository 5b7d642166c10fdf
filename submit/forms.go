package submit

import (
	"slices"

	"rebuttal/api"
	"rebuttal/syntax"
)

// Limits of the sections that a form demands.
const (
	maxMust    = 20
	maxHeading = 60 // bytes
)

// CheckForm validates a form.
func CheckForm(f api.Form) api.Errno {
	if f.Least < 0 || f.Least > f.Most || f.Most > api.MaxBody {
		return api.ErrArg
	}
	if f.Lines < 0 || f.Lines > api.MaxBody || f.Deep < 1 || f.Deep > maxLevel {
		return api.ErrArg
	}
	if len(f.Must) > maxMust {
		return api.ErrLarge
	}
	for i, title := range f.Must {
		if !syntax.Label(title, maxHeading) || title != lower(title) {
			return api.ErrForm
		}
		if slices.Contains(f.Must[:i], title) {
			return api.ErrTwice
		}
	}
	return api.OK
}

// Fits tells what is wrong with a text.
func Fits(f api.Form, text string) ([]api.Fault, api.Errno) {
	if e := CheckForm(f); e != api.OK {
		return nil, e
	}
	words, lines, e := Length(text)
	if e != api.OK {
		return nil, e
	}
	parts := sections(text)
	return slices.Concat(sizeFaults(f, words, lines), missing(f, parts), shapeFaults(f, parts)), api.OK
}

func sizeFaults(f api.Form, words, lines int) []api.Fault {
	var l []api.Fault
	if words < f.Least {
		l = append(l, api.Fault{Kind: api.FaultShort})
	}
	if words > f.Most {
		l = append(l, api.Fault{Kind: api.FaultLong})
	}
	if f.Lines > 0 && lines > f.Lines {
		l = append(l, api.Fault{Kind: api.FaultLines})
	}
	return l
}

func missing(f api.Form, sections []api.Section) []api.Fault {
	var l []api.Fault
	for _, title := range f.Must {
		named := func(s api.Section) bool { return lower(s.Title) == title }
		if !slices.ContainsFunc(sections, named) {
			l = append(l, api.Fault{Kind: api.FaultMissing, Title: title})
		}
	}
	return l
}

func shapeFaults(f api.Form, sections []api.Section) []api.Fault {
	var l []api.Fault
	// The first section is below the text itself.
	above := 0
	for i, s := range sections {
		if s.Level > min(f.Deep, above+1) {
			l = append(l, api.Fault{Kind: api.FaultDeep, Title: s.Title})
		}
		hasParts := i+1 < len(sections) && sections[i+1].Level > s.Level
		if s.Words == 0 && !hasParts {
			l = append(l, api.Fault{Kind: api.FaultEmpty, Title: s.Title})
		}
		above = s.Level
	}
	return l
}
