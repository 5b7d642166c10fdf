// Package syntax has the forms that all chapters share: lines, numbers, moments, keys, plain strings and texts (Z9 to Z11 of the document).
package syntax

import (
	"slices"
	"strconv"
	"strings"
	"unicode/utf8"

	"rebuttal/api"
)

// Key reports whether a string is a key.
func Key(s string) bool {
	if len(s) < 1 || len(s) > api.MaxName || !small(s[0]) {
		return false
	}
	for i := range len(s) {
		if c := s[i]; !small(c) && !digit(c) && c != '-' && c != '_' {
			return false
		}
	}
	return true
}

// CheckKey is what is wrong with a string that is to be a key.
func CheckKey(s string) api.Errno {
	if !Key(s) {
		return api.ErrName
	}
	return api.OK
}

// After is what is wrong with a key behind another one. The first one of a list needs no mark: it is behind "", and every key is greater than that.
func After(key, last string) api.Errno {
	if !Key(key) {
		return api.ErrName
	}
	if key <= last {
		return api.ErrOrder
	}
	return api.OK
}

// Rising is what is wrong with a list of at most so many keys, each one greater than the one before.
func Rising(keys []string, most int) api.Errno { return RisingBy(keys, most, itself, noError) }

// RisingBy is what is wrong with a list of at most so many elements: of each one first with its key, which is greater than the one before, then what check finds.
func RisingBy[T any](l []T, most int, key func(T) string, check func(T) api.Errno) api.Errno {
	last := ""
	return Each(l, most, func(x T) api.Errno {
		if e := After(key(x), last); e != api.OK {
			return e
		}
		last = key(x)
		return check(x)
	})
}

// Distinct is what is wrong with a list of at most so many keys, each one for the first time.
func Distinct(keys []string, most int) api.Errno { return DistinctBy(keys, most, itself, noError) }

// DistinctBy is what is wrong with a list of at most so many elements: of each one first with its key, which no earlier one has, then what check finds.
func DistinctBy[T any](l []T, most int, key func(T) string, check func(T) api.Errno) api.Errno {
	there := map[string]bool{}
	return Each(l, most, func(x T) api.Errno {
		if !Key(key(x)) {
			return api.ErrName
		}
		if there[key(x)] {
			return api.ErrTwice
		}
		there[key(x)] = true
		return check(x)
	})
}

// Each is what is wrong with a list of at most so many elements: of each one what check finds.
func Each[T any](l []T, most int, check func(T) api.Errno) api.Errno {
	if len(l) > most {
		return api.ErrLarge
	}
	for _, x := range l {
		if e := check(x); e != api.OK {
			return e
		}
	}
	return api.OK
}

// Moment reports whether a number is a moment.
func Moment(n int) bool { return n >= 0 && n < api.End }

// CheckMoment is what is wrong with a number that is to be a moment.
func CheckMoment(n int) api.Errno {
	if !Moment(n) {
		return api.ErrArg
	}
	return api.OK
}

// Plain reports whether a string is plain; an empty one is.
func Plain(s string) bool {
	for i := range len(s) {
		if control(s[i]) {
			return false
		}
	}
	blankAtEnd := strings.HasPrefix(s, " ") || strings.HasSuffix(s, " ")
	return utf8.ValidString(s) && !blankAtEnd && !strings.Contains(s, "  ")
}

// Label reports whether a string is plain, not empty, and has at most so many bytes.
func Label(s string, most int) bool { return s != "" && len(s) <= most && Plain(s) }

// Text reports whether a string is a text.
func Text(s string) bool {
	for i := range len(s) {
		if control(s[i]) && s[i] != '\n' {
			return false
		}
	}
	ended := s == "" || strings.HasSuffix(s, "\n")
	return ended && utf8.ValidString(s)
}

// Number is the number that a string writes with at most so many digits, up to 18.
func Number(s string, most int) (int, bool) {
	digits := strings.TrimPrefix(s, "-")
	if len(digits) < 1 || len(digits) > min(most, 18) {
		return 0, false
	}
	if digits[0] == '0' && s != "0" {
		return 0, false
	}
	for i := range len(digits) {
		if !digit(digits[i]) {
			return 0, false
		}
	}
	n, err := strconv.Atoi(s)
	return n, err == nil
}

// Count is the number, not below 0, that a string writes with at most so many digits, up to 18.
func Count(s string, most int) (int, bool) {
	n, ok := Number(s, most)
	if n < 0 {
		return 0, false
	}
	return n, ok
}

// Line is a line of words with single blanks between, and its line feed.
func Line(words ...string) string { return strings.Join(words, " ") + "\n" }

// Words are those of a line, without its line feed; false if a word is empty.
func Words(line string) ([]string, bool) {
	words := strings.Split(line, " ")
	if slices.Contains(words, "") {
		return nil, false
	}
	return words, true
}

// Lines are the lines of a string, and whether a line feed ends the last one.
func Lines(s string) ([]string, bool) {
	if s == "" {
		return nil, true
	}
	rest, ended := strings.CutSuffix(s, "\n")
	return strings.Split(rest, "\n"), ended
}

// Read hands over the lines of a string, one after the other. ErrLarge if it has more than MaxText bytes; ErrSyntax, and the number of the line, for the first one that is not accepted, or that no line feed ends.
func Read(text string, accept func(string) bool) (int, api.Errno) {
	if len(text) > api.MaxText {
		return 0, api.ErrLarge
	}
	lines, ended := Lines(text)
	for i, line := range lines {
		last := i == len(lines)-1
		if !accept(line) || last && !ended {
			return i, api.ErrSyntax
		}
	}
	return 0, api.OK
}

// Write is the string of what each element is written as. ErrLarge if it has more than MaxText bytes; the elements from there on are not looked at.
func Write[T any](l []T, written func(T) string) (string, api.Errno) {
	var b strings.Builder
	for _, x := range l {
		b.WriteString(written(x))
		if b.Len() > api.MaxText {
			return "", api.ErrLarge
		}
	}
	return b.String(), api.OK
}

func itself(key string) string { return key }

func noError(string) api.Errno { return api.OK }

func small(c byte) bool { return c >= 'a' && c <= 'z' }

func digit(c byte) bool { return c >= '0' && c <= '9' }

func control(c byte) bool { return c < 32 || c == 127 }
