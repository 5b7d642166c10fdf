package submit

import (
	"cmp"
	"slices"
	"strings"
	"unicode/utf8"

	"rebuttal/api"
	"rebuttal/syntax"
)

// Limits of what gives authors away.
const (
	maxNameBytes = 60 // bytes of a name
	maxNameWords = 6
	mostHomes    = 50
	maxAway      = 6 // words from `our` to `previous`
)

// Initials is a name with its words but the last one cut.
func Initials(name string) (string, api.Errno) {
	if !isName(name) {
		return "", api.ErrForm
	}
	return strings.Join(initials(Words(name)), " "), api.OK
}

// Anonymity tells what gives authors away.
func Anonymity(names, homes []string, text string) ([]api.Give, api.Errno) {
	if len(names) > api.MaxAuthors || len(homes) > mostHomes {
		return nil, api.ErrLarge
	}
	for _, name := range slices.Concat(names, homes) {
		if !isName(name) {
			return nil, api.ErrForm
		}
	}
	if e := checkText(text); e != api.OK {
		return nil, e
	}
	s := search{words: placedWords(text)}
	for _, name := range names {
		whole := Words(name)
		short := initials(whole)
		s.findRows(api.GiveName, whole, name)
		if !slices.Equal(short, whole) {
			s.findRows(api.GiveInitials, short, name)
		}
	}
	for _, home := range homes {
		s.findRows(api.GiveHome, Words(home), home)
	}
	s.findOurs()
	slices.SortFunc(s.found, compareGives)
	return slices.Compact(s.found), api.OK
}

// Cover writes x in the place of what gives authors away.
func Cover(text string, l []api.Give) (string, api.Errno) {
	if e := checkText(text); e != api.OK {
		return "", e
	}
	for _, g := range l {
		if g.Span.From < 0 || g.Span.From >= g.Span.To || g.Span.To > len(text) {
			return "", api.ErrArg
		}
	}
	within := inSpans(len(text), l)
	covered := []byte(text)
	for from, r := range text {
		to := from + utf8.RuneLen(r)
		// All bytes of a longer code point are of words.
		if !ofWord(text[from]) || !slices.Contains(within[from:to], true) {
			continue
		}
		for i := from; i < to; i++ {
			covered[i] = 'x'
		}
	}
	return string(covered), api.OK
}

func isName(s string) bool {
	if !syntax.Label(s, maxNameBytes) {
		return false
	}
	n := len(placedWords(s))
	return n >= 1 && n <= maxNameWords
}

// initials are the words of a name, each but the last one cut to its first code point.
func initials(words []string) []string {
	l := slices.Clone(words)
	for i, w := range l[:len(l)-1] {
		_, size := utf8.DecodeRuneInString(w)
		l[i] = w[:size]
	}
	return l
}

// search is the words of a text, and what was found among them.
type search struct {
	words []placed
	found []api.Give
}

func (s *search) add(kind, first, last int, who string) {
	span := api.Span{From: s.words[first].span.From, To: s.words[last].span.To}
	s.found = append(s.found, api.Give{Kind: kind, Span: span, Who: who})
}

// findRows finds where some words follow one another.
func (s *search) findRows(kind int, row []string, who string) {
	for first := range len(s.words) - len(row) + 1 {
		part := s.words[first : first+len(row)]
		if slices.EqualFunc(part, row, func(p placed, w string) bool { return p.word == w }) {
			s.add(kind, first, first+len(row)-1, who)
		}
	}
}

// findOurs finds where authors speak of what they did before.
func (s *search) findOurs() {
	for i, our := range s.words {
		if !isOur(our.word) {
			continue
		}
		for j := i + 1; j <= i+maxAway && j < len(s.words); j++ {
			if s.words[j].line == our.line && isPrevious(s.words[j].word) {
				s.add(api.GiveOur, i, j, "")
			}
		}
	}
}

func isOur(word string) bool { return word == "our" || word == "my" || word == "we" }

func isPrevious(word string) bool {
	switch word {
	case "previous", "earlier", "prior", "recent":
		return true
	}
	return false
}

// inSpans says of each of n bytes whether it is in one of the spans.
func inSpans(n int, l []api.Give) []bool {
	// How many spans more there are from a byte on: spans can be many and long.
	more := make([]int, n+1)
	for _, g := range l {
		more[g.Span.From]++
		more[g.Span.To]--
	}
	within := make([]bool, n)
	open := 0
	for i := range within {
		open += more[i]
		within[i] = open > 0
	}
	return within
}

func compareGives(a, b api.Give) int {
	return cmp.Or(
		cmp.Compare(a.Span.From, b.Span.From),
		cmp.Compare(a.Span.To, b.Span.To),
		cmp.Compare(a.Kind, b.Kind),
		strings.Compare(a.Who, b.Who),
	)
}
