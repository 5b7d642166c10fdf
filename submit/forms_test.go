package submit_test

import (
	"math"
	"strings"
	"testing"

	"rebuttal/api"
	"rebuttal/submit"
)

func form() api.Form { return api.Form{Least: 0, Most: 100, Deep: 4} }

// P2.6: what is right.
func TestCheckForm(t *testing.T) {
	for _, f := range []api.Form{
		form(),
		{Deep: 1},
		{Least: api.MaxBody, Most: api.MaxBody, Lines: api.MaxBody, Deep: 4, Must: keys(20)},
		{Deep: 2, Must: []string{"z", "a", "related work", "größe", "1. ([`{@", strings.Repeat("k", 60)}},
	} {
		is(t, submit.CheckForm(f), api.OK)
	}
}

// P2.6: the errors, each where the one before is put right.
func TestCheckFormErrors(t *testing.T) {
	f := api.Form{Least: -1, Most: 5, Deep: 1, Must: keys(21)}
	climb(t, f, submit.CheckForm, []rung[api.Form]{
		{api.ErrArg, func(f *api.Form) { f.Least = 6 }},
		{api.ErrArg, func(f *api.Form) { f.Least, f.Most = math.MinInt, math.MinInt }},
		{api.ErrArg, func(f *api.Form) { f.Least, f.Most = 0, -1 }},
		{api.ErrArg, func(f *api.Form) { f.Most = api.MaxBody + 1 }},
		{api.ErrArg, func(f *api.Form) { f.Least, f.Most = math.MaxInt, math.MaxInt }},
		{api.ErrArg, func(f *api.Form) { f.Least, f.Most, f.Lines = 5, 5, -1 }},
		{api.ErrArg, func(f *api.Form) { f.Lines = api.MaxBody + 1 }},
		{api.ErrArg, func(f *api.Form) { f.Lines, f.Deep = 0, 0 }},
		{api.ErrArg, func(f *api.Form) { f.Deep = 5 }},
		{api.ErrArg, func(f *api.Form) { f.Deep = math.MinInt }},
		{api.ErrArg, func(f *api.Form) { f.Deep = 1 }},
		{api.ErrLarge, func(f *api.Form) { f.Must = []string{"a", "b", "a", ""} }},
		{api.ErrTwice, func(f *api.Form) { f.Must = []string{"a", "", "a"} }},
		{api.ErrForm, func(f *api.Form) { f.Must = nil }},
	})
	for _, s := range []string{"", " a", "a ", "a  b", "a\n", "\xff", "Intro", "aZ", strings.Repeat("k", 61)} {
		f := form()
		f.Must = []string{s, s}
		is(t, all(s, submit.CheckForm(f)), all(s, api.ErrForm))
	}
}

// P2.6: Fits: how long a text is.
func TestFitsSize(t *testing.T) {
	for _, x := range []struct {
		least, most, lines int
		want               []api.Fault
	}{
		{0, 100, 0, []api.Fault{}},
		{4, 4, 3, []api.Fault{}},
		{5, 5, 3, []api.Fault{{Kind: api.FaultShort}}},
		{3, 3, 4, []api.Fault{{Kind: api.FaultLong}}},
		{0, 0, 0, []api.Fault{{Kind: api.FaultLong}}},
		{4, 100, 2, []api.Fault{{Kind: api.FaultLines}}},
		{9, 9, 1, []api.Fault{{Kind: api.FaultShort}, {Kind: api.FaultLines}}},
		{0, 1, 1, []api.Fault{{Kind: api.FaultLong}, {Kind: api.FaultLines}}},
	} {
		l, e := submit.Fits(api.Form{Least: x.least, Most: x.most, Lines: x.lines, Deep: 1}, "one two\n  \nthree\n\nfour\n")
		is(t, all(x, l, e), all(x, x.want, api.OK))
	}
	l, e := submit.Fits(api.Form{Least: 1, Most: 1, Lines: 1, Deep: 1}, "")
	is(t, all(l, e), all([]api.Fault{{Kind: api.FaultShort}}, api.OK))
}

// P2.6: Fits: which sections must be there.
func TestFitsMust(t *testing.T) {
	f := form()
	f.Must = []string{"method", "end", "intro", "größe", "on ai"}
	l, e := submit.Fits(f, "# INTRO\nx\n## GröSSE\ny\n# oN AI\nz\n## Intro\nx\n")
	want := []api.Fault{{Kind: api.FaultMissing, Title: "method"}, {Kind: api.FaultMissing, Title: "end"}, {Kind: api.FaultMissing, Title: "größe"}}
	is(t, all(l, e), all(want, api.OK))
	// Other capitals than A to Z stay, and blanks within count.
	f.Must = []string{"ärger", "a b"}
	l, e = submit.Fits(f, "# Ärger\nx\n# A  b\nx\n")
	is(t, all(l, e), all([]api.Fault{{Kind: api.FaultMissing, Title: "ärger"}, {Kind: api.FaultMissing, Title: "a b"}}, api.OK))
}

// P2.6: Fits: how deep sections are.
func TestFitsDeep(t *testing.T) {
	deep := func(titles ...string) []api.Fault {
		l := []api.Fault{}
		for _, s := range titles {
			l = append(l, api.Fault{Kind: api.FaultDeep, Title: s})
		}
		return l
	}
	for _, x := range []struct {
		deep int
		text string
		want []api.Fault
	}{
		{4, "# A\nx\n## B\nx\n### C\nx\n#### D\nx\n# E\nx\n", deep()},
		{2, "# A\nx\n## B\nx\n### C\nx\n#### D\nx\n# E\nx\n", deep("C", "D")},
		{1, "## B\nx\n", deep("B")},
		{4, "## B\nx\n### C\nx\n", deep("B")},
		{4, "# A\nx\n### C\nx\n# E\nx\n#### D\nx\n", deep("C", "D")},
		{2, "# A\nx\n#### D\nx\n### C\nx\n", deep("D", "C")},
		{4, "# A\nx\n### C\nx\n#### D\nx\n## B\nx\n", deep("C")},
	} {
		f := form()
		f.Deep = x.deep
		l, e := submit.Fits(f, x.text)
		is(t, all(x.text, l, e), all(x.text, x.want, api.OK))
	}
}

// P2.6: Fits: which sections have nothing.
func TestFitsEmpty(t *testing.T) {
	l, e := submit.Fits(form(), "# A\n## B\n.\n## C\n# D\nx\n# E\n### F\n")
	want := []api.Fault{{Kind: api.FaultEmpty, Title: "B"}, {Kind: api.FaultEmpty, Title: "C"}, {Kind: api.FaultDeep, Title: "F"}, {Kind: api.FaultEmpty, Title: "F"}}
	is(t, all(l, e), all(want, api.OK))
	l, e = submit.Fits(form(), "# A\n")
	is(t, all(l, e), all([]api.Fault{{Kind: api.FaultEmpty, Title: "A"}}, api.OK))
}

// P2.6: all faults are in their order, section by section.
func TestFitsOrder(t *testing.T) {
	l, e := submit.Fits(api.Form{Least: 90, Most: 90, Lines: 1, Deep: 1, Must: []string{"m", "a"}}, "## B\n## C\n# D\n")
	want := []api.Fault{
		{Kind: api.FaultShort}, {Kind: api.FaultLines}, {Kind: api.FaultMissing, Title: "m"}, {Kind: api.FaultMissing, Title: "a"},
		{Kind: api.FaultDeep, Title: "B"}, {Kind: api.FaultEmpty, Title: "B"}, {Kind: api.FaultDeep, Title: "C"}, {Kind: api.FaultEmpty, Title: "C"}, {Kind: api.FaultEmpty, Title: "D"},
	}
	is(t, all(l, e), all(want, api.OK))
}

// P2.6: the errors of Fits.
func TestFitsErrors(t *testing.T) {
	long := strings.Repeat("a", api.MaxBody+1)
	for _, x := range []struct {
		f    api.Form
		text string
		want api.Errno
	}{
		{api.Form{}, long, api.ErrArg},
		{api.Form{Deep: 1, Must: []string{"A"}}, long, api.ErrForm},
		{form(), long, api.ErrLarge},
		{form(), "a", api.ErrForm},
		{form(), "\x7f\n", api.ErrForm},
	} {
		l, e := submit.Fits(x.f, x.text)
		is(t, all(l, e), all([]api.Fault{}, x.want))
	}
}
