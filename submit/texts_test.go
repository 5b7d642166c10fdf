package submit_test

import (
	"strings"
	"testing"

	"rebuttal/api"
	"rebuttal/submit"
)

// plainWords are the words of a string, byte by byte.
func plainWords(s string) []string {
	l := []string{}
	word := ""
	for i := range len(s) + 1 {
		end := i == len(s)
		switch {
		case !end && strings.IndexByte("abcdefghijklmnopqrstuvwxyz0123456789", s[i]) >= 0, !end && s[i] > 127:
			word += s[i : i+1]
		case !end && s[i] >= 'A' && s[i] <= 'Z':
			word += string(rune(s[i]) + 32)
		case word != "":
			l = append(l, word)
			word = ""
		}
	}
	return l
}

// P2.5: Words, of any string.
func TestWords(t *testing.T) {
	for text, want := range map[string][]string{
		"":                     {},
		" .,\n":                {},
		"One":                  {"one"},
		"One two\nTHREE":       {"one", "two", "three"},
		"a-b_c'd":              {"a", "b", "c", "d"},
		"x86 2nd 007":          {"x86", "2nd", "007"},
		"@[`{/:AZaz09":         {"azaz09"},
		"Größe ÄRGER":          {"größe", "Ärger"},
		"a\u00a0b \u20ac":      {"a\u00a0b", "\u20ac"},
		"\xff\x80A \xc3":       {"\xff\x80a", "\xc3"},
		"\x00a\x7fb\t":         {"a", "b"},
		"end":                  {"end"},
		" end ":                {"end"},
		strings.Repeat("Z", 4): {"zzzz"},
	} {
		is(t, all(text, submit.Words(text)), all(text, want))
	}
	d := dice(19)
	for range 500 {
		var b []byte
		for range d.below(12) {
			b = append(b, byte(d.below(256)))
		}
		is(t, submit.Words(string(b)), plainWords(string(b)))
	}
	is(t, len(submit.Words(strings.Repeat("\xff ", 100_000))), 100_000)
}

// P2.5: Length.
func TestLength(t *testing.T) {
	for _, x := range []struct {
		text         string
		words, lines int
	}{
		{"", 0, 0},
		{"\n", 0, 0},
		{"  \n\n \n", 0, 0},
		{" . \n", 0, 1},
		{"one\n", 1, 1},
		{"\none two\n   \nthree\n", 3, 2},
		{"# One\n\n## \nx-y\n", 3, 3},
		{"\u00a0\n", 1, 1},
		{strings.Repeat("a\n", api.MaxBody/2), api.MaxBody / 2, api.MaxBody / 2},
	} {
		w, n, e := submit.Length(x.text)
		is(t, all(w, n, e), all(x.words, x.lines, api.OK))
	}
}

// P2.5: Sections.
func TestSections(t *testing.T) {
	for _, x := range []struct {
		text string
		want []api.Section
	}{
		{"", []api.Section{}},
		{"before all\n", []api.Section{}},
		{"before\n# A\n", []api.Section{{Level: 1, Title: "A"}}},
		{"# A\nx\n\ny z\n## B\n", []api.Section{{Level: 1, Title: "A", Words: 3}, {Level: 2, Title: "B"}}},
		{"#   The  End   \n.\n", []api.Section{{Level: 1, Title: "The  End"}}},
		{"### c\n#### d e\nf\n", []api.Section{{Level: 3, Title: "c"}, {Level: 4, Title: "d e", Words: 1}}},
		{"# A\n##### Five\n", []api.Section{{Level: 1, Title: "A", Words: 1}}},
		{"# A\n#B\n#\n# \n##   \n # C\nx # D\n", []api.Section{{Level: 1, Title: "A", Words: 4}}},
		{"# # A\n", []api.Section{{Level: 1, Title: "# A"}}},
		{"## #\n", []api.Section{{Level: 2, Title: "#"}}},
		{"# \u00a0\n", []api.Section{{Level: 1, Title: "\u00a0"}}},
		{"# A\n# A\n", []api.Section{{Level: 1, Title: "A"}, {Level: 1, Title: "A"}}},
	} {
		l, e := submit.Sections(x.text)
		is(t, all(x.text, l, e), all(x.text, x.want, api.OK))
	}
}

// P2.5: the errors of both.
func TestTextErrors(t *testing.T) {
	for _, s := range badTexts {
		w, n, e := submit.Length(s)
		is(t, all(s, w, n, e), all(s, 0, 0, api.ErrForm))
		l, e := submit.Sections(s)
		is(t, all(s, l, e), all(s, []api.Section{}, api.ErrForm))
	}
	for _, s := range []string{strings.Repeat("a", api.MaxBody) + "\n", strings.Repeat("\xff", api.MaxBody+1)} {
		w, n, e := submit.Length(s)
		is(t, all(w, n, e), all(0, 0, api.ErrLarge))
		l, e := submit.Sections(s)
		is(t, all(l, e), all([]api.Section{}, api.ErrLarge))
	}
}
