// Package syntax has the forms of strings that all chapters share: lines, numbers, keys and plain strings (Z9 to Z11 of the document).
package syntax

import (
	"strconv"
	"strings"
	"unicode/utf8"

	"rebuttal/api"
)

// Key reports whether a string is a key.
func Key(s string) bool {
	if len(s) < 1 || len(s) > api.MaxName || !small(s[0]) {
		return false
	}
	for i := range len(s) {
		if c := s[i]; !small(c) && !digit(c) && c != '-' && c != '_' {
			return false
		}
	}
	return true
}

// Plain reports whether a string is plain; an empty one is.
func Plain(s string) bool {
	for i := range len(s) {
		if s[i] < 32 || s[i] == 127 {
			return false
		}
	}
	blankAtEnd := strings.HasPrefix(s, " ") || strings.HasSuffix(s, " ")
	return utf8.ValidString(s) && !blankAtEnd && !strings.Contains(s, "  ")
}

// Number is the number that a string writes with at most so many digits, up to 18.
func Number(s string, most int) (int, bool) {
	digits := strings.TrimPrefix(s, "-")
	if len(digits) < 1 || len(digits) > min(most, 18) {
		return 0, false
	}
	if digits[0] == '0' && s != "0" {
		return 0, false
	}
	for i := range len(digits) {
		if !digit(digits[i]) {
			return 0, false
		}
	}
	n, err := strconv.Atoi(s)
	return n, err == nil
}

// Lines are the lines of a string, and whether a line feed ends the last one.
func Lines(s string) ([]string, bool) {
	if s == "" {
		return nil, true
	}
	rest, ended := strings.CutSuffix(s, "\n")
	return strings.Split(rest, "\n"), ended
}

func small(c byte) bool { return c >= 'a' && c <= 'z' }

func digit(c byte) bool { return c >= '0' && c <= '9' }
