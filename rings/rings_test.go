package rings

import (
	"fmt"
	"strings"
	"testing"
)

// next are steps of words with an arrow of one letter each.
func next(words string) map[string][]string {
	m := map[string][]string{}
	for _, w := range strings.Fields(words) {
		m[w[:1]] = append(m[w[:1]], w[1:])
	}
	return m
}

func TestOf(t *testing.T) {
	for words, want := range map[string]string{
		"":                           "[]",
		"aa":                         "[]",
		"ab":                         "[]",
		"ab bc cd":                   "[]",
		"ab ba":                      "[[a b]]",
		"ab ba ab aa":                "[[a b]]",
		"cb ba ac":                   "[[a b c]]",
		"fa af be eb ab":             "[[a f] [b e]]",
		"fa af be eb ab ef":          "[[a b e f]]",
		"ab ba bc cd dc ea df":       "[[a b] [c d]]",
		"za az yb by xc cx ab bc":    "[[a z] [b y] [c x]]",
		"ab bc ca cd de ed ef fg gf": "[[a b c] [d e] [f g]]",
		"ab ac bd cd da":             "[[a b c d]]",
	} {
		if got := fmt.Sprint(Of(next(words))); got != want {
			t.Errorf("%s: got %s, want %s", words, got, want)
		}
	}
	if l := Of(map[string][]string{"a": nil, "b": {}}); len(l) != 0 {
		t.Error(l)
	}
}

// One ring through many persons, and then the same without its last step.
func TestLong(t *testing.T) {
	m := map[string][]string{}
	key := func(i int) string { return fmt.Sprintf("k%06d", i) }
	const many = 100_000
	for i := range many {
		m[key(i)] = []string{key((i + 1) % many)}
	}
	if l := Of(m); len(l) != 1 || len(l[0]) != many || l[0][0] != key(0) || l[0][many-1] != key(many-1) {
		t.Error(len(l))
	}
	delete(m, key(many-1))
	if l := Of(m); len(l) != 0 {
		t.Error(len(l))
	}
}
