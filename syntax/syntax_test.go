package syntax

import (
	"math"
	"slices"
	"strconv"
	"strings"
	"testing"

	"rebuttal/api"
)

// Z11: keys.
func TestKey(t *testing.T) {
	for _, s := range []string{"a", "z", "a0", "a-b_c9", "a-", "a_", strings.Repeat("k", api.MaxName)} {
		if !Key(s) {
			t.Errorf("%q is a key", s)
		}
	}
	for _, s := range []string{"", "A", "aB", "0a", "-a", "_a", "a b", "a.", "ä", "aä", "a\n", "a\x00", "`", "{", "a/", "a:", strings.Repeat("k", api.MaxName+1)} {
		if Key(s) {
			t.Errorf("%q is no key", s)
		}
	}
}

// Z4: what is wrong with a key, or a moment, alone.
func TestChecks(t *testing.T) {
	for key, want := range map[string]api.Errno{"a": api.OK, strings.Repeat("k", api.MaxName): api.OK, "": api.ErrName, "A": api.ErrName} {
		if e := CheckKey(key); e != want {
			t.Errorf("%q: %d", key, e)
		}
	}
	for n, want := range map[int]api.Errno{0: api.OK, api.End - 1: api.OK, -1: api.ErrArg, api.End: api.ErrArg, math.MinInt: api.ErrArg} {
		if e := CheckMoment(n); e != want {
			t.Errorf("%d: %d", n, e)
		}
	}
}

// Z11: plain strings.
func TestPlain(t *testing.T) {
	for _, s := range []string{"", "a", "a b", "a b c", "Ä b", "\u20ac", "\U0010ffff", "\u0080", "~", "!", "\u00a0 x"} {
		if !Plain(s) {
			t.Errorf("%q is plain", s)
		}
	}
	for _, s := range []string{" ", " a", "a ", "a  b", "a\tb", "a\n", "\x00", "a\x1fb", "a\x7f", "\x80", "a\xff", "\xc0\x80", "\xed\xa0\x80", "\xf4\x90\x80\x80", "\xe2\x82"} {
		if Plain(s) {
			t.Errorf("%q is not plain", s)
		}
	}
}

// Z11: plain strings that are not empty, nor too long.
func TestLabel(t *testing.T) {
	for _, s := range []string{"a", "a b", "\u20ac", "abc"} {
		if !Label(s, 3) {
			t.Errorf("%q is right", s)
		}
	}
	for _, s := range []string{"", " ", "a ", "abcd", "\u20aca", "a\n", "\xff"} {
		if Label(s, 3) {
			t.Errorf("%q is not right", s)
		}
	}
}

// Z11: texts.
func TestText(t *testing.T) {
	for _, s := range []string{"", "\n", "a\n", " a  b \n\nc\n", "\n\n", "Ä\u20ac\U0010ffff\u0080\n", "~\n", "\ufffd\n"} {
		if !Text(s) {
			t.Errorf("%q is a text", s)
		}
	}
	for _, s := range []string{"a", " ", "\na", "a\n ", "a\tb\n", "a\r\n", "\x00\n", "\x1f\n", "\x7f\n", "\x80\n", "\xff\n", "\xc0\x80\n", "\xed\xa0\x80\n", "\xf4\x90\x80\x80\n", "\xe2\x82\n"} {
		if Text(s) {
			t.Errorf("%q is no text", s)
		}
	}
}

// Z11: moments.
func TestMoment(t *testing.T) {
	for n, want := range map[int]bool{0: true, 1: true, api.End - 1: true, -1: false, api.End: false, math.MinInt: false, math.MaxInt: false} {
		if Moment(n) != want {
			t.Errorf("%d", n)
		}
	}
}

// Z11: keys that differ.
func TestDistinct(t *testing.T) {
	for _, c := range []struct {
		keys []string
		want api.Errno
	}{
		{nil, api.OK},
		{[]string{"a"}, api.OK},
		{[]string{"b", "a", "a0"}, api.OK},
		{[]string{"a", "b", "c", "d"}, api.ErrLarge},
		{[]string{"", "", "", ""}, api.ErrLarge},
		{[]string{""}, api.ErrName},
		{[]string{"A", "A"}, api.ErrName},
		{[]string{"b", "A", "b"}, api.ErrName},
		{[]string{"b", "b", "A"}, api.ErrTwice},
		{[]string{"b", "a", "b"}, api.ErrTwice},
	} {
		if e := Distinct(c.keys, 3); e != c.want {
			t.Errorf("%q: got %d, want %d", c.keys, e, c.want)
		}
	}
}

// Z11: keys in order.
func TestRising(t *testing.T) {
	for _, c := range []struct {
		keys []string
		want api.Errno
	}{
		{nil, api.OK},
		{[]string{"a"}, api.OK},
		{[]string{"a", "a0", "b"}, api.OK},
		{[]string{"a", "b", "c", "d"}, api.ErrLarge},
		{[]string{"", "", "", ""}, api.ErrLarge},
		{[]string{""}, api.ErrName},
		{[]string{"b", "A"}, api.ErrName},
		{[]string{"b", "b", "A"}, api.ErrOrder},
		{[]string{"b", "c", "a"}, api.ErrOrder},
	} {
		if e := Rising(c.keys, 3); e != c.want {
			t.Errorf("%q: %d", c.keys, e)
		}
	}
	if e := After("b", "a"); e != api.OK {
		t.Error(e)
	}
}

// unmarked is a word without the mark that says that it is wrong.
func unmarked(s string) string { return strings.TrimSuffix(s, "!") }

func checkMark(s string) api.Errno {
	if strings.HasSuffix(s, "!") {
		return api.ErrSum
	}
	return api.OK
}

// Z4: elements, each one with what is wrong with it.
func TestEach(t *testing.T) {
	for words, want := range map[string]api.Errno{
		"":         api.OK,
		"b a A":    api.OK,
		"a! b c":   api.ErrSum,
		"a b c!":   api.ErrSum,
		"a a a a":  api.ErrLarge,
		"a! b c d": api.ErrLarge,
	} {
		if e := Each(strings.Fields(words), 3, checkMark); e != want {
			t.Errorf("%q: %d", words, e)
		}
	}
}

// Z4: elements whose keys differ, each one with what is wrong with it.
func TestDistinctBy(t *testing.T) {
	for _, c := range []struct {
		words string
		want  api.Errno
	}{
		{"", api.OK},
		{"b a0 a", api.OK},
		{"a! a a c", api.ErrLarge},
		{"a b! a", api.ErrSum},
		{"A!", api.ErrName},
		{"a A! b!", api.ErrName},
		{"b a! a", api.ErrSum},
		{"b b! A", api.ErrTwice},
		{"b c b", api.ErrTwice},
		{"c b a!", api.ErrSum},
	} {
		if e := DistinctBy(strings.Fields(c.words), 3, unmarked, checkMark); e != c.want {
			t.Errorf("%q: %d", c.words, e)
		}
	}
}

// Z4: elements in the order of their keys, each one with what is wrong with it.
func TestRisingBy(t *testing.T) {
	for _, c := range []struct {
		words string
		want  api.Errno
	}{
		{"", api.OK},
		{"a a0 b", api.OK},
		{"a! a b c", api.ErrLarge},
		{"a b! a", api.ErrSum},
		{"A!", api.ErrName},
		{"a A! b!", api.ErrName},
		{"b a!", api.ErrOrder},
		{"b b! c!", api.ErrOrder},
		{"b c a", api.ErrOrder},
		{"a b c!", api.ErrSum},
	} {
		if e := RisingBy(strings.Fields(c.words), 3, unmarked, checkMark); e != c.want {
			t.Errorf("%q: %d", c.words, e)
		}
	}
}

// Z10: numbers.
func TestNumber(t *testing.T) {
	for _, n := range []int{0, 1, 9, 10, 123456789, 999999999, -1, -10, -999999999} {
		if got, ok := Number(strconv.Itoa(n), 9); got != n || !ok {
			t.Errorf("%d is read as %d, %t", n, got, ok)
		}
	}
	for _, s := range []string{"", "-", "-0", "00", "01", "-01", "+1", "--1", "1-", "1 ", " 1", "1a", "a", "/", ":", "0x1", "1_0", "1.0", "1234567890", "-1234567890", "0000000000", "\u0661"} {
		if n, ok := Number(s, 9); n != 0 || ok {
			t.Errorf("%q is read as %d, %t", s, n, ok)
		}
	}
	if n, ok := Number("10", 1); n != 0 || ok {
		t.Errorf("two digits are read as one: %d, %t", n, ok)
	}
	if n, ok := Number("-999999999999999999", 100); n != -999999999999999999 || !ok {
		t.Errorf("18 digits are read as %d, %t", n, ok)
	}
	if n, ok := Number("1000000000000000000", 100); n != 0 || ok {
		t.Errorf("19 digits are read as %d, %t", n, ok)
	}
}

// Z10: numbers that are not below 0.
func TestCount(t *testing.T) {
	for s, want := range map[string]int{"0": 0, "7": 7, "999999999": 999999999} {
		if n, ok := Count(s, 9); n != want || !ok {
			t.Errorf("%q is read as %d, %t", s, n, ok)
		}
	}
	for _, s := range []string{"", "-1", "-0", "01", "-999999999", "1000000000", "x", "+1"} {
		if n, ok := Count(s, 9); n != 0 || ok {
			t.Errorf("%q is read as %d, %t", s, n, ok)
		}
	}
}

// Z9: words of a line.
func TestWords(t *testing.T) {
	for _, line := range []string{"a", "a b", "a |b \t", "ä\xff \r"} {
		words, ok := Words(line)
		if !ok || Line(words...) != line+"\n" || slices.Contains(words, "") {
			t.Errorf("words of %q are %q, %t", line, words, ok)
		}
	}
	for _, line := range []string{"", " ", "a ", " a", "a  b"} {
		if words, ok := Words(line); words != nil || ok {
			t.Errorf("words of %q are %q, %t", line, words, ok)
		}
	}
	if Line() != "\n" || Line("a", "b c") != "a b c\n" {
		t.Error(Line("a", "b c"))
	}
}

// Z9: lines.
func TestLines(t *testing.T) {
	for _, c := range []struct {
		text  string
		lines []string
		ended bool
	}{
		{"", nil, true},
		{"\n", []string{""}, true},
		{"a", []string{"a"}, false},
		{"a\n", []string{"a"}, true},
		{"a\n\n", []string{"a", ""}, true},
		{"a\nb", []string{"a", "b"}, false},
		{"\n\nb\r\n", []string{"", "", "b\r"}, true},
	} {
		l, ended := Lines(c.text)
		if !slices.Equal(l, c.lines) || ended != c.ended {
			t.Errorf("lines of %q are %q, %t", c.text, l, ended)
		}
	}
}

// Z9: lines that are read one after the other.
func TestRead(t *testing.T) {
	for _, c := range []struct {
		text string
		line int
		want api.Errno
		read string
	}{
		{"", 0, api.OK, ""},
		{"a\n", 0, api.OK, "a|"},
		{"a\n\nb\n", 0, api.OK, "a||b|"},
		{"a\nx\nb", 1, api.ErrSyntax, "a|x|"},
		{"x\nx\n", 0, api.ErrSyntax, "x|"},
		{"a\nb", 1, api.ErrSyntax, "a|b|"},
		{"a", 0, api.ErrSyntax, "a|"},
		{"\n\nx", 2, api.ErrSyntax, "||x|"},
	} {
		read := ""
		n, e := Read(c.text, func(line string) bool {
			read += line + "|"
			return line != "x"
		})
		if n != c.line || e != c.want || read != c.read {
			t.Errorf("%q: %d, %d, %q", c.text, n, e, read)
		}
	}
	lines := 0
	count := func(string) bool {
		lines++
		return true
	}
	if n, e := Read(strings.Repeat("\n", api.MaxText), count); n != 0 || e != api.OK || lines != api.MaxText {
		t.Error(n, e, lines)
	}
	if n, e := Read(strings.Repeat("x", api.MaxText+1), count); n != 0 || e != api.ErrLarge || lines != api.MaxText {
		t.Error(n, e, lines)
	}
}

// Z9: strings that are written element by element.
func TestWrite(t *testing.T) {
	asked := 0
	written := func(n int) string {
		asked++
		return strings.Repeat("x", n) + "\n"
	}
	most := strings.Repeat("x", api.MaxText-1) + "\n"
	for _, c := range []struct {
		lengths []int
		want    string
		e       api.Errno
		asked   int
	}{
		{nil, "", api.OK, 0},
		{[]int{2, 0, 1}, "xx\n\nx\n", api.OK, 3},
		{[]int{api.MaxText - 1}, most, api.OK, 1},
		{[]int{0, api.MaxText - 2}, "\n" + most[1:], api.OK, 2},
		{[]int{api.MaxText}, "", api.ErrLarge, 1},
		{[]int{api.MaxText - 1, 0, 0}, "", api.ErrLarge, 2},
	} {
		asked = 0
		if s, e := Write(c.lengths, written); s != c.want || e != c.e || asked != c.asked {
			t.Errorf("%d: %d bytes, %d, %d", c.lengths, len(s), e, asked)
		}
	}
}
