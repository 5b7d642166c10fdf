package index

import (
	"slices"
	"strconv"
	"strings"
	"testing"

	"rebuttal/api"
)

func word(s string) string { return s }

func TestOf(t *testing.T) {
	number := Of([]string{"c", "a", "b"}, word)
	if len(number) != 3 || number["c"] != 0 || number["a"] != 1 || number["b"] != 2 {
		t.Error(number)
	}
	if number := Of(nil, word); len(number) != 0 {
		t.Error(number)
	}
}

func TestRising(t *testing.T) {
	number := Of([]string{"c", "a", "b"}, word)
	for s, want := range map[string]api.Errno{
		"":        api.OK,
		"b":       api.OK,
		"a b c":   api.OK,
		"x":       api.ErrNone,
		"a aa":    api.ErrNone,
		"b b":     api.ErrOrder,
		"a c b x": api.ErrOrder,
		"b a":     api.ErrOrder,
		"c x a":   api.ErrNone,
	} {
		if e := Rising(number, strings.Fields(s)); e != want {
			t.Error(s, e)
		}
	}
}

func TestDistinct(t *testing.T) {
	number := Of([]string{"c", "a", "b"}, word)
	for s, want := range map[string]api.Errno{
		"":        api.OK,
		"b":       api.OK,
		"b a c":   api.OK,
		"x":       api.ErrNone,
		"a aa":    api.ErrNone,
		"b b":     api.ErrTwice,
		"a c a x": api.ErrTwice,
		"a x a":   api.ErrNone,
		"x x":     api.ErrNone,
	} {
		if e := Distinct(number, strings.Fields(s)); e != want {
			t.Error(s, e)
		}
	}
}

func TestTwo(t *testing.T) {
	number := map[string]int{"a": 3, "b": 0}
	for _, c := range []struct {
		a, b string
		i, j int
		want api.Errno
	}{
		{"a", "b", 3, 0, api.OK},
		{"b", "b", 0, 0, api.OK},
		{"a", "x", 0, 0, api.ErrNone},
		{"x", "a", 0, 0, api.ErrNone},
		{"", "", 0, 0, api.ErrNone},
	} {
		if i, j, e := Two(number, c.a, c.b); i != c.i || j != c.j || e != c.want {
			t.Error(c, i, j, e)
		}
	}
}

// parents are those of elements with one letter, each before that of the one above it, or a dot.
func parents(s string) ([]int, api.Errno) {
	l := strings.Fields(s)
	number := Of(l, func(w string) string { return w[:1] })
	return Parents(l, number, func(w string) string { return strings.Trim(w[1:], ".") })
}

func TestParents(t *testing.T) {
	for s, want := range map[string][]int{
		"":               {},
		"a.":             {Top},
		"a. ba cb":       {Top, 0, 1},
		"ac ba c. dc e.": {2, 0, Top, 2, Top},
	} {
		if l, e := parents(s); e != api.OK || !slices.Equal(l, want) {
			t.Error(s, l, e)
		}
	}
	for s, want := range map[string]api.Errno{
		"ax":             api.ErrNone,
		"aa bx":          api.ErrNone,
		"aa":             api.ErrLoop,
		"ab ba":          api.ErrLoop,
		"ab bc cb":       api.ErrLoop,
		"a. ba cd de ec": api.ErrLoop,
	} {
		if l, e := parents(s); l != nil || e != want {
			t.Error(s, l, e)
		}
	}
	// A way through all elements is no loop.
	var long []string
	for i := range 500 {
		long = append(long, strconv.Itoa(i))
	}
	l, e := Parents(long, Of(long, word), func(s string) string {
		if s == "0" {
			return ""
		}
		n, _ := strconv.Atoi(s)
		return strconv.Itoa(n - 1)
	})
	if e != api.OK || len(Path(l, 499)) != 500 {
		t.Error(l, e)
	}
}

func TestPathAndInside(t *testing.T) {
	parent := []int{2, 0, Top, 2, Top}
	paths := [][]int{{0, 2}, {1, 0, 2}, {2}, {3, 2}, {4}}
	for i, path := range paths {
		if l := Path(parent, i); !slices.Equal(l, path) {
			t.Error(i, l)
		}
		for j := range parent {
			if Inside(parent, i, j) != slices.Contains(path, j) {
				t.Error(i, j)
			}
		}
	}
	if l := Path(parent, Top); len(l) != 0 {
		t.Error(l)
	}
}
