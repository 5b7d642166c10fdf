package syntax

import (
	"strings"
	"testing"

	"rebuttal/api"
)

// P5.6, P7.8: texts within other ones.
func TestQuote(t *testing.T) {
	for text, want := range map[string]string{
		"\n":          "|\n",
		"a\n":         "|a\n",
		"a\nb\n":      "|a\n|b\n",
		"\n\n":        "|\n|\n",
		"|\n \n\na\n": "||\n| \n|\n|a\n",
	} {
		if got := Quote(text); got != want {
			t.Errorf("%q is quoted as %q", text, got)
		}
		if Height(text) != strings.Count(want, "\n") {
			t.Errorf("height of %q: %d", text, Height(text))
		}
	}
	if Height("") != 0 || Height("a") != 0 {
		t.Error("what has no line feed has no line")
	}
}

// P5.6, P7.8: lines with texts between them. A line is a number of lines of its text.
func TestReadQuoted(t *testing.T) {
	for _, c := range []struct {
		text  string
		line  int
		want  api.Errno
		taken string
	}{
		{"", 0, api.OK, ""},
		{"0\n0\n", 0, api.OK, "0.0."},
		{"1\n|a\n", 0, api.OK, "1.a\n/"},
		{"2\n|\n||b\n0\n1\n|c\n", 0, api.OK, "2.\n|b\n/0.1.c\n/"},
		{"1\n|a\n|b\n", 2, api.ErrSyntax, "1.a\n/"},
		{"0\n|a\n", 1, api.ErrSyntax, "0."},
		{"|a\n", 0, api.ErrSyntax, ""},
		{"1\n0\n", 1, api.ErrSyntax, "1."},
		{"1\n\n", 1, api.ErrSyntax, "1."},
		{"0\nx\n0\n", 1, api.ErrSyntax, "0."},
		{"1\n|a\n0", 2, api.ErrSyntax, "1.a\n/0."},
		{"1\n|a", 1, api.ErrSyntax, "1.a\n/"},
		{"0\n1\n", 2, api.ErrSyntax, "0.1."},
		{"9\n|a\n|b\n", 3, api.ErrSyntax, "9."},
		{strings.Repeat("0", api.MaxText+1), 0, api.ErrLarge, ""},
	} {
		taken := ""
		accept := func(line string) (int, bool) {
			n, ok := Count(line, 1)
			if ok {
				taken += line + "."
			}
			return n, ok
		}
		line, e := ReadQuoted(c.text, accept, func(text string) { taken += text + "/" })
		if line != c.line || e != c.want || taken != c.taken {
			t.Errorf("%.20q: %d, %d, %q", c.text, line, e, taken)
		}
	}
}
