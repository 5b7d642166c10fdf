package proceed

import (
	"strings"
	"unicode/utf8"

	"rebuttal/api"
)

// SortName is a name with the family name first.
func SortName(name string) (string, api.Errno) {
	if e := checkName(name); e != api.OK {
		return "", e
	}
	return sortName(name), api.OK
}

// Initials is a name with the other words cut.
func Initials(name string) (string, api.Errno) {
	if e := checkName(name); e != api.OK {
		return "", e
	}
	return initials(name), api.OK
}

func checkName(name string) api.Errno { return checkLabel(name, api.MaxNaming) }

// sortName is SortName of a name that is right.
func sortName(name string) string {
	others, family := split(name)
	if len(others) == 0 {
		return family
	}
	return family + ", " + strings.Join(others, " ")
}

// initials is Initials of a name that is right.
func initials(name string) string {
	others, family := split(name)
	var b strings.Builder
	for _, word := range others {
		b.WriteString(initial(word) + ". ")
	}
	return b.String() + family
}

// split is a name as its other words and the family name.
func split(name string) (others []string, family string) {
	words := strings.Split(name, " ")
	at := len(words) - 1
	for at > 1 && isParticle(words[at-1]) {
		at--
	}
	return words[:at], strings.Join(words[at:], " ")
}

func isParticle(word string) bool {
	switch word {
	case "da", "de", "del", "den", "der", "di", "la", "le", "van", "von":
		return true
	}
	return false
}

// initial is the first code point of a word, and those behind its hyphens.
func initial(word string) string {
	cut := first(word)
	for i := range word {
		if word[i] == '-' && i+1 < len(word) {
			cut += "-" + first(word[i+1:])
		}
	}
	return cut
}

// first is the first code point of a string that has one.
func first(s string) string {
	_, size := utf8.DecodeRuneInString(s)
	return s[:size]
}
