package topic_test

import (
	"slices"
	"strings"
	"testing"

	"rebuttal/api"
	"rebuttal/topic"
)

// P3.1: PrintForest, and ParseForest of what it writes.
func TestPrintForest(t *testing.T) {
	for text, l := range map[string][]api.Topic{
		"":                              {},
		"a\n":                           topics("a"),
		"art\nbread\n  cake\n  rolls\n": bakery(),
		"c\n  a\n    b\n  d\ne\n":       topics("a c", "b a", "c", "d c", "e"),
		"e\n  d\n    c\n      b\n        a\n  z\n": topics("a b", "b c", "c d", "d e", "e", "z e"),
		// Below comes before the next one, whatever the order of the bytes.
		"a\n  z\na-\na0\n  b\n": topics("a", "a-", "a0", "b a0", "z a"),
	} {
		is(t, pack(topic.PrintForest(l)), all(text, api.OK))
		back, n, e := topic.ParseForest(text)
		is(t, all(back, n, e), all(l, 0, api.OK))
	}
	d := dice(5)
	for range 300 {
		l := d.forest(t)
		s, e := topic.PrintForest(l)
		is(t, e, api.OK)
		is(t, s, plainPrint(l, "", ""))
		back, n, e := topic.ParseForest(s)
		is(t, all(back, n, e), all(l, 0, api.OK))
	}
	s, e := topic.PrintForest(manyTopics(api.MaxTopics))
	is(t, all(strings.Count(s, "\n"), e), all(api.MaxTopics, api.OK))
}

func plainPrint(l []api.Topic, above, indent string) string {
	s := ""
	for _, t := range l {
		if t.Above == above {
			s += indent + t.Key + "\n" + plainPrint(l, t.Key, indent+"  ")
		}
	}
	return s
}

// P3.1: the first line that has not the form.
func TestParseForestSyntax(t *testing.T) {
	for text, line := range map[string]int{
		"\n": 0, "a\n\n": 1, " \n": 0, "  \n": 0, "a\n  \n": 1, "a\n    \n": 1,
		"a": 0, "a\nb": 1, "a\n  b": 1, "a\n  b\n ": 2, "x y": 0,
		" a\n": 0, "  a\n": 0, "   a\n": 0, "    a\n": 0,
		"a\n b\n": 1, "a\n   b\n": 1, "a\n    b\n": 1, "a\n  b\n      c\n": 2, "a\n  b\n   c\n": 2, "a\nb\n  c\nd\n    e\n": 4,
		"a b\n": 0, "a \n": 0, "a\n  b \n": 1, "a\n  b c\n": 1,
		"b\na\n": 1, "b\n  z\na\n": 2, "a\n  c\n  b\n": 2, "a\n  c\n    x\n  b\n": 3, "a\n  c\n    x\n      z\n    w\n": 4, "a\n  b\nc\n  b\n  a\n": 4,
		"A\n\n": 1, "b\na\n\n": 1, "a\na\nA\n": 2, "a\n\nb": 1,
		strings.Repeat("a\n", 99_999) + " b": 99_999,
	} {
		l, n, e := topic.ParseForest(text)
		if show(all(l, n, e)) != show(all([]api.Topic{}, line, api.ErrSyntax)) {
			t.Errorf("%.40q: %s, %d, %d", text, show(l), n, e)
		}
	}
}

// P3.1: what has the form, and is no forest, has the error of CheckForest, and no number.
func TestParseForestChecks(t *testing.T) {
	for text, want := range map[string]api.Errno{
		"A\n":                                  api.ErrName,
		"a\n  B\n":                             api.ErrName,
		"\t\n":                                 api.ErrName,
		"a\r\n":                                api.ErrName,
		"\xff\n":                               api.ErrName,
		"-\n":                                  api.ErrName,
		"a\n  \tb\n":                           api.ErrName,
		"Z\n  a\n":                             api.ErrName,
		"a\na\n":                               api.ErrOrder,
		"a\n  b\n  b\n":                        api.ErrOrder,
		"a\n  a\n":                             api.ErrOrder,
		"a\n  b\nb\n":                          api.ErrOrder,
		"a\n  c\nb\n  c\n":                     api.ErrOrder,
		"a\n  d\nb\n  c\nc\n":                  api.ErrOrder,
		"a\n  c\na\n  b\n":                     api.ErrOrder,
		"a\n  a\n  b\n    B\n":                 api.ErrName,
		"a\n  a\n  b\n    z.\n":                api.ErrOrder,
		strings.Repeat("a\n", 99):              api.ErrOrder,
		strings.Repeat("a\n", api.MaxTopics+1): api.ErrLarge,
		strings.Repeat("A\n", api.MaxTopics+1): api.ErrLarge,
		strings.Repeat("a\n", api.MaxText/2):   api.ErrLarge,
		strings.Repeat("~", api.MaxText-1) + "\n":               api.ErrName,
		"a\n  b\n    c\n      d\n        e\n          f\n":      api.ErrLarge,
		"a\n  b\n    c\n      d\n        e\n          f\n  F\n": api.ErrSyntax,
	} {
		line := 0
		if want == api.ErrSyntax {
			line = 6
		}
		l, n, e := topic.ParseForest(text)
		if show(all(l, n, e)) != show(all([]api.Topic{}, line, want)) {
			t.Errorf("%.40q: %s, %d, %d, want %d", text, show(l), n, e, want)
		}
	}
	for _, text := range []string{strings.Repeat("a\n", api.MaxText/2) + "a", strings.Repeat("\n", api.MaxText+1)} {
		l, n, e := topic.ParseForest(text)
		is(t, all(l, n, e), all([]api.Topic{}, 0, api.ErrLarge))
	}
	// Each one below the one before, so that the lines get longer and longer.
	var b strings.Builder
	for i := range 400 {
		b.WriteString(strings.Repeat("  ", i) + "a\n")
	}
	l, n, e := topic.ParseForest(b.String())
	is(t, all(l, n, e), all([]api.Topic{}, 0, api.ErrLarge))
}

// Z10: ParseForest accepts nothing but what PrintForest writes.
func TestParseForestExactly(t *testing.T) {
	d := dice(7)
	base := "b\n  d\n    f\n  h\nj\n  l\n"
	pieces := []string{"", " ", "  ", "\n", "a", "c\n", "  e\n", "    g\n", "k", "\t", "A", "\xff", "z\n"}
	accepted := 0
	for range 20_000 {
		at := d.below(len(base))
		s := base[:at] + d.pick(pieces) + base[min(len(base), at+d.below(3)):]
		l, n, e := topic.ParseForest(s)
		if e == api.OK {
			accepted++
			is(t, all(pack(topic.PrintForest(l)), n), all(all(s, api.OK), 0))
			is(t, slices.IsSortedFunc(l, func(a, b api.Topic) int { return strings.Compare(a.Key, b.Key) }), true)
		}
	}
	if accepted < 1000 || accepted > 19_000 {
		t.Errorf("%d accepted", accepted)
	}
}
