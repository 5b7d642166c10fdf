// Package proceed prints what is taken, and counts votes and grants.
package proceed

import (
	"slices"

	"rebuttal/api"
	"rebuttal/index"
	"rebuttal/syntax"
)

// maxLength is how many pages a paper has at most.
const maxLength = 100

// CheckFinals validates finals.
func CheckFinals(l []api.Final) api.Errno {
	return syntax.RisingBy(l, api.MaxPapers, finalKey, func(f api.Final) api.Errno {
		if e := checkTitle(f.Title); e != api.OK {
			return e
		}
		if f.Pages < 1 || f.Pages > maxLength {
			return api.ErrArg
		}
		if len(f.Credits) == 0 {
			return api.ErrForm
		}
		name := func(c api.Credit) api.Errno { return checkName(c.Name) }
		return syntax.DistinctBy(f.Credits, api.MaxAuthors, creditKey, name)
	})
}

// Missing are the papers that are taken, and have no final.
func Missing(l []api.Final, d []api.Decision) ([]string, api.Errno) {
	if e := CheckFinals(l); e != api.OK {
		return nil, e
	}
	paper := func(x api.Decision) string { return x.Paper }
	noError := func(api.Decision) api.Errno { return api.OK }
	if e := syntax.DistinctBy(d, len(d), paper, noError); e != api.OK {
		return nil, e
	}
	final := index.Of(l, finalKey)
	var missing []string
	for _, x := range d {
		if _, there := final[x.Paper]; x.Yes && !there {
			missing = append(missing, x.Paper)
		}
	}
	slices.Sort(missing)
	return missing, api.OK
}

func checkTitle(title string) api.Errno { return checkLabel(title, api.MaxTitle) }

func checkLabel(s string, most int) api.Errno {
	if !syntax.Label(s, most) {
		return api.ErrForm
	}
	return api.OK
}

func finalKey(f api.Final) string { return f.Paper }

func creditKey(c api.Credit) string { return c.Key }
