package assign_test

import (
	"slices"
	"strings"
	"testing"

	"rebuttal/api"
	"rebuttal/assign"
)

// P4.8: what changed.
func TestChanged(t *testing.T) {
	for _, c := range []struct{ a, b, new, old string }{
		{"", "", "", ""},
		{"pa", "", "", "pa"},
		{"", "pa qb", "pa qb", ""},
		{"pa qb", "pa qb", "", ""},
		{"pa pc qb", "pb pc qa qb", "pb qa", "pa"},
		{"pa", "zz", "zz", "pa"},
		{"ab ba", "aa bb", "aa bb", "ab ba"},
	} {
		is(t, pack3(assign.Changed(list(c.a), list(c.b))), all(list(c.new), list(c.old), api.OK))
	}
	large := append(many(api.MaxPapers*api.MaxPeople), pair("P", "a"))
	for _, c := range []struct {
		a, b []api.Pair
		want api.Errno
	}{
		{list("Pa"), large, api.ErrName},
		{list("pA"), list("qa pa"), api.ErrName},
		{list("pa pa"), list("Pa"), api.ErrOrder},
		{large, list("Pa"), api.ErrLarge},
		{list("pa"), large, api.ErrLarge},
		{list("pa"), list("qa pa"), api.ErrOrder},
		{list("pa"), list("pA"), api.ErrName},
	} {
		is(t, pack3(assign.Changed(c.a, c.b)), all([]api.Pair{}, []api.Pair{}, c.want))
	}
	all := many(api.MaxPapers * api.MaxPeople)
	added, gone, e := assign.Changed(all[:100_000], all[50_000:])
	if e != api.OK || !slices.Equal(added, all[100_000:]) || !slices.Equal(gone, all[:50_000]) {
		t.Error(len(added), len(gone), e)
	}
}

// P4.8: Text, and Read of what it writes.
func TestText(t *testing.T) {
	for text, l := range map[string][]api.Pair{
		"":                    nil,
		"p a\n":               list("pa"),
		"p a\np b\nq a\n":     list("pa pb qa"),
		"p-1 a_0\nq z9-z_-\n": {pair("p-1", "a_0"), pair("q", "z9-z_-")},
		strings.Repeat("p", api.MaxName) + " " + strings.Repeat("a", api.MaxName) + "\n": {pair(strings.Repeat("p", api.MaxName), strings.Repeat("a", api.MaxName))},
	} {
		is(t, pack(assign.Text(l)), all(text, api.OK))
		is(t, pack3(assign.Read(text)), all(l, 0, api.OK))
	}
	is(t, pack(assign.Text(list("pa qA"))), all("", api.ErrName))
	is(t, pack(assign.Text(list("pa pa"))), all("", api.ErrOrder))
	is(t, pack(assign.Text(append(many(api.MaxPapers*api.MaxPeople), pair("P", "a")))), all("", api.ErrLarge))
	is(t, pack(assign.Text(many(api.MaxPapers*api.MaxPeople))), all("", api.ErrLarge))
	// The greatest text: each of these lines has 12 bytes.
	l := many(api.MaxText / 12)
	l[0].Person = "k"
	l[1].Person = "k0000"
	rest := api.MaxText%12 + 4
	l[1].Person += strings.Repeat("0", rest)
	s, e := assign.Text(l)
	is(t, all(len(s), e), all(api.MaxText, api.OK))
	back, line, e := assign.Read(s)
	is(t, all(slices.Equal(back, l), line, e), all(true, 0, api.OK))
	l[1].Person += "0"
	is(t, pack(assign.Text(l)), all("", api.ErrLarge))
}

// P4.8: the first line that has not the form.
func TestReadSyntax(t *testing.T) {
	for text, line := range map[string]int{
		"\n": 0, "p a\n\n": 1, " \n": 0, "p\n": 0, "p \n": 0, " a\n": 0, "p a": 0, "p a\nq": 1, "p a\nq b": 1, "p": 0,
		"p  a\n": 0, " p a\n": 0, "p a \n": 0, "p a b\n": 0, "p a\nq\n": 1, "p a\nq a\nr  a\n": 2, "p\ta\n": 0,
		"P A\np a\n\n": 2, "q a\np a\nx": 2, "p a\n\nq": 1,
		strings.Repeat("p a\n", api.MaxText/4-1) + "p  \n": api.MaxText/4 - 1,
		strings.Repeat("p", api.MaxText):                   0,
		strings.Repeat("\n", api.MaxText):                  0,
	} {
		l, n, e := assign.Read(text)
		if show(all(l, n, e)) != show(all([]api.Pair{}, line, api.ErrSyntax)) {
			t.Errorf("%.40q: %.100s, %d, %d", text, show(l), n, e)
		}
	}
}

// P4.8: what has the form, and is no list of pairs, has its error, and no number.
func TestReadChecks(t *testing.T) {
	for text, want := range map[string]api.Errno{
		"P a\n":                                api.ErrName,
		"p A\n":                                api.ErrName,
		"p\t a\n":                              api.ErrName,
		"p a\r\n":                              api.ErrName,
		"p \xff\n":                             api.ErrName,
		"p a\n- b\n":                           api.ErrName,
		"q a\np A\n":                           api.ErrName,
		"q a\np a\nP a\n":                      api.ErrOrder,
		"p a\np a\n":                           api.ErrOrder,
		"p b\np a\n":                           api.ErrOrder,
		"q a\np b\n":                           api.ErrOrder,
		strings.Repeat("p a\n", api.MaxText/4): api.ErrOrder,
		strings.Repeat("p a\n", api.MaxText/4) + "p": api.ErrLarge,
		strings.Repeat("\n", api.MaxText+1):          api.ErrLarge,
	} {
		l, n, e := assign.Read(text)
		if show(all(l, n, e)) != show(all([]api.Pair{}, 0, want)) {
			t.Errorf("%.40q: %.100s, %d, %d, want %d", text, show(l), n, e, want)
		}
	}
}

// Z10: Read accepts nothing but what Text writes.
func TestReadExactly(t *testing.T) {
	d := dice(37)
	base := "p a\np c\nq b\nr-1 a0\n"
	pieces := []string{"", " ", "  ", "\n", "a", "p b\n", "q a\n", "z", "0", "\t", "A", "\xff", "s z\n"}
	accepted := 0
	for range 20_000 {
		at := d.below(len(base))
		s := base[:at] + d.pick(pieces) + base[min(len(base), at+d.below(3)):]
		l, n, e := assign.Read(s)
		if e == api.OK {
			accepted++
			is(t, all(pack(assign.Text(l)), n), all(all(s, api.OK), 0))
		}
	}
	if accepted < 1000 || accepted > 19_000 {
		t.Error(accepted)
	}
}
