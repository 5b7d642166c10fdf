package submit

import (
	"strings"

	"rebuttal/api"
	"rebuttal/syntax"
)

// Words are the words of a string, with small letters.
func Words(text string) []string {
	var l []string
	for _, w := range placedWords(text) {
		l = append(l, w.word)
	}
	return l
}

// Length is how many words a text has, and how many lines that are not blank.
func Length(text string) (int, int, api.Errno) {
	if e := checkText(text); e != api.OK {
		return 0, 0, e
	}
	l, _ := syntax.Lines(text)
	lines := 0
	for _, line := range l {
		if strings.Trim(line, " ") != "" {
			lines++
		}
	}
	return len(placedWords(text)), lines, api.OK
}

// Sections are the sections of a text.
func Sections(text string) ([]api.Section, api.Errno) {
	if e := checkText(text); e != api.OK {
		return nil, e
	}
	return sections(text), api.OK
}

func sections(text string) []api.Section {
	lines, _ := syntax.Lines(text)
	var l []api.Section
	for _, line := range lines {
		if level, title := heading(line); level > 0 {
			l = append(l, api.Section{Level: level, Title: title})
		} else if len(l) > 0 {
			l[len(l)-1].Words += len(placedWords(line))
		}
	}
	return l
}

// maxLevel is the greatest level of a section.
const maxLevel = 4

// heading is the level and the title of a line that begins a section; the level of other lines is 0.
func heading(line string) (int, string) {
	rest := strings.TrimLeft(line, "#")
	level := len(line) - len(rest)
	title := strings.Trim(rest, " ")
	if level > maxLevel || !strings.HasPrefix(rest, " ") || title == "" {
		return 0, ""
	}
	return level, title
}

func checkText(text string) api.Errno {
	if len(text) > api.MaxBody {
		return api.ErrLarge
	}
	if !syntax.Text(text) {
		return api.ErrForm
	}
	return api.OK
}

// placed is a word, the number of its line, and where it is.
type placed struct {
	word string
	line int
	span api.Span
}

func placedWords(text string) []placed {
	var l []placed
	line := 0
	for from := 0; from < len(text); {
		to := from
		for to < len(text) && ofWord(text[to]) {
			to++
		}
		if from < to {
			l = append(l, placed{lower(text[from:to]), line, api.Span{From: from, To: to}})
		}
		if to < len(text) && text[to] == '\n' {
			line++
		}
		// The byte at to is of no word.
		from = to + 1
	}
	return l
}

func ofWord(c byte) bool {
	return c >= 'a' && c <= 'z' || c >= 'A' && c <= 'Z' || c >= '0' && c <= '9' || c >= 128
}

// lower is a string with small letters for A to Z alone; it need not be UTF-8.
func lower(s string) string {
	b := []byte(s)
	for i, c := range b {
		if c >= 'A' && c <= 'Z' {
			b[i] = c + 'a' - 'A'
		}
	}
	return string(b)
}
