package syntax

import (
	"strings"

	"rebuttal/api"
)

// quote is before each line of a text that is within another one.
const quote = "|"

// Quote is a text, which is not empty, as it is within another one.
func Quote(text string) string {
	lines := strings.TrimSuffix(text, "\n")
	return quote + strings.ReplaceAll(lines, "\n", "\n"+quote) + "\n"
}

// Height is how many lines a text has.
func Height(text string) int { return strings.Count(text, "\n") }

// ReadQuoted is Read of lines with texts between them: accept also says how many lines the text behind a line has, and take takes the text, if it has some. ErrSyntax, and the number of all lines, if some are missing at the end.
func ReadQuoted(text string, accept func(string) (int, bool), take func(string)) (int, api.Errno) {
	var taken strings.Builder
	missing := 0
	line, e := Read(text, func(line string) bool {
		quoted, isQuoted := strings.CutPrefix(line, quote)
		if isQuoted != (missing > 0) {
			return false
		}
		if !isQuoted {
			height, ok := accept(line)
			missing = height
			return ok
		}
		taken.WriteString(quoted + "\n")
		missing--
		if missing == 0 {
			take(taken.String())
			taken.Reset()
		}
		return true
	})
	if e == api.OK && missing > 0 {
		return Height(text), api.ErrSyntax
	}
	return line, e
}
