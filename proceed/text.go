package proceed

import (
	"strconv"
	"strings"

	"rebuttal/api"
	"rebuttal/syntax"
)

// Words that lines of a text begin with.
const (
	wordFinal = "final"
	wordTitle = "title"
	wordBy    = "by"
)

// maxDigits is how many digits a number in a text has at most.
const maxDigits = 9

// Text writes finals.
func Text(l []api.Final) (string, api.Errno) {
	// The document has ErrLarge before what is wrong with the finals.
	text, e := syntax.Write(l, finalLines)
	if e != api.OK {
		return "", e
	}
	if e := CheckFinals(l); e != api.OK {
		return "", e
	}
	return text, api.OK
}

// Read reads finals.
func Read(text string) ([]api.Final, int, api.Errno) {
	var r reader
	line, e := syntax.Read(text, r.accept)
	if e == api.OK && r.lacksTitle() {
		line, e = syntax.Height(text), api.ErrSyntax
	}
	if e != api.OK {
		return nil, line, e
	}
	if e := CheckFinals(r.finals); e != api.OK {
		return nil, 0, e
	}
	return r.finals, 0, api.OK
}

func finalLines(f api.Final) string {
	var b strings.Builder
	b.WriteString(syntax.Line(wordFinal, f.Paper, strconv.Itoa(f.Pages)))
	b.WriteString(syntax.Line(wordTitle, f.Title))
	for _, c := range f.Credits {
		b.WriteString(syntax.Line(wordBy, c.Key, c.Name))
	}
	return b.String()
}

// reader are the finals that were read so far.
type reader struct{ finals []api.Final }

// lacksTitle reports whether the next line is to be a title.
func (r *reader) lacksTitle() bool {
	return len(r.finals) > 0 && r.last().Title == ""
}

func (r *reader) last() *api.Final { return &r.finals[len(r.finals)-1] }

// accept takes the next line; false if it has not its form, or cannot be there.
func (r *reader) accept(line string) bool {
	word, rest, _ := strings.Cut(line, " ")
	if r.lacksTitle() {
		r.last().Title = rest
		return word == wordTitle && rest != ""
	}
	switch word {
	case wordFinal:
		return r.acceptFinal(rest)
	case wordBy:
		return len(r.finals) > 0 && r.acceptCredit(rest)
	}
	return false
}

func (r *reader) acceptFinal(rest string) bool {
	words, ok := syntax.Words(rest)
	if !ok || len(words) != 2 {
		return false
	}
	pages, ok := syntax.Number(words[1], maxDigits)
	r.finals = append(r.finals, api.Final{Paper: words[0], Pages: pages})
	return ok
}

func (r *reader) acceptCredit(rest string) bool {
	key, name, _ := strings.Cut(rest, " ")
	f := r.last()
	f.Credits = append(f.Credits, api.Credit{Key: key, Name: name})
	return key != "" && name != ""
}
