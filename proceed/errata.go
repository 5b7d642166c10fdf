package proceed

import (
	"cmp"
	"slices"

	"rebuttal/api"
	"rebuttal/index"
	"rebuttal/syntax"
)

// CheckErrata validates errata.
func CheckErrata(l []api.Erratum) api.Errno {
	return syntax.Each(l, api.MaxErrata, checkErratum)
}

// Apply applies errata.
func Apply(l []api.Final, errata []api.Erratum) ([]api.Final, int, api.Errno) {
	if e := cmp.Or(CheckFinals(l), CheckErrata(errata)); e != api.OK {
		return nil, 0, e
	}
	finals := slices.Clone(l)
	for i, f := range finals {
		finals[i].Credits = slices.Clone(f.Credits)
	}
	number := index.Of(finals, finalKey)
	many := 0
	for _, x := range errata {
		field, e := fieldOf(finals, number, x)
		if e != api.OK {
			return nil, 0, e
		}
		switch *field {
		case x.Old:
			*field = x.New
			many++
		case x.New:
		default:
			return nil, 0, api.ErrConflict
		}
	}
	return finals, many, api.OK
}

func checkErratum(x api.Erratum) api.Errno {
	if !syntax.Key(x.Paper) {
		return api.ErrName
	}
	var most int
	switch x.Field {
	case api.FieldTitle:
		most = api.MaxTitle
		if x.Key != "" {
			return api.ErrForm
		}
	case api.FieldName:
		most = api.MaxNaming
		if !syntax.Key(x.Key) {
			return api.ErrName
		}
	default:
		return api.ErrKind
	}
	if e := cmp.Or(checkLabel(x.Old, most), checkLabel(x.New, most)); e != api.OK {
		return e
	}
	if x.Old == x.New {
		return api.ErrLoop
	}
	return api.OK
}

// fieldOf is the field that an erratum is about.
func fieldOf(finals []api.Final, number map[string]int, x api.Erratum) (*string, api.Errno) {
	i, known := number[x.Paper]
	if !known {
		return nil, api.ErrNone
	}
	f := &finals[i]
	if x.Field == api.FieldTitle {
		return &f.Title, api.OK
	}
	at := slices.IndexFunc(f.Credits, func(c api.Credit) bool { return c.Key == x.Key })
	if at < 0 {
		return nil, api.ErrNone
	}
	return &f.Credits[at].Name, api.OK
}
