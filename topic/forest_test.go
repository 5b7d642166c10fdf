package topic_test

import (
	"math/big"
	"slices"
	"testing"

	"rebuttal/api"
	"rebuttal/topic"
)

// withForest are the errors of all functions with a forest, whose other arguments are wrong, too.
func withForest(l []api.Topic) map[string]api.Errno {
	s, papers, r, b := skills("", 0), []api.Paper{{}}, []api.Reader{{}}, []api.Bid{{}}
	last := func(l []any) api.Errno { return l[len(l)-1].(api.Errno) }
	return map[string]api.Errno{
		"Above":        last(pack(topic.Above(l, ""))),
		"Below":        last(pack(topic.Below(l, ""))),
		"Meet":         last(pack(topic.Meet(l, "", ""))),
		"Near":         last(pack(topic.Near(l, "", ""))),
		"PrintForest":  last(pack(topic.PrintForest(l))),
		"CheckSkills":  topic.CheckSkills(l, s),
		"Learn":        last(pack(topic.Learn(l, papers, ""))),
		"Spread":       last(pack(topic.Spread(l, s, 0))),
		"Affinity":     last(pack(topic.Affinity(l, s, []string{""}))),
		"Reasons":      last(pack(topic.Reasons(l, s, []string{""}))),
		"CheckReaders": topic.CheckReaders(l, r),
		"Worths":       last(pack(topic.Worths(l, papers, r, b))),
		"Best":         last(pack(topic.Best(l, papers, r, b, "", 0))),
		"Uncovered":    last(pack(topic.Uncovered(l, papers, r, 0))),
		"Lack":         last(pack(topic.Lack(l, papers, r, 0))),
		"Odd":          last(pack(topic.Odd(l, papers, r, b, 0))),
	}
}

// P3.1: which forests are right, and that all functions return the error of one that is not before their own ones.
func TestCheckForest(t *testing.T) {
	deep := topics("a", "b a", "c b", "d c", "e d")
	for _, c := range []struct {
		l    []api.Topic
		want api.Errno
	}{
		{nil, api.OK},
		{bakery(), api.OK},
		{deep, api.OK},
		{topics("a b", "b c", "c d", "d e", "e"), api.OK},
		{manyTopics(api.MaxTopics), api.OK},
		{manyTopics(api.MaxTopics + 1), api.ErrLarge},
		{append(topics("B"), manyTopics(api.MaxTopics)...), api.ErrLarge},
		{topics("A"), api.ErrName},
		{topics("a A"), api.ErrName},
		{topics("a A", "x", "b"), api.ErrName},
		{topics("b", "a A"), api.ErrName},
		{topics("b", "A"), api.ErrName},
		{topics("b", "a"), api.ErrOrder},
		{topics("a", "a"), api.ErrOrder},
		{topics("b x", "a", "B"), api.ErrOrder},
		{topics("a x", "B"), api.ErrName},
		{topics("a x"), api.ErrNone},
		{topics("a a", "b x"), api.ErrNone},
		{append(deep, topics("f e", "g x")...), api.ErrNone},
		{topics("a a"), api.ErrLoop},
		{topics("a b", "b a"), api.ErrLoop},
		{topics("a b", "b c", "c b"), api.ErrLoop},
		{append(deep, topics("f e", "g h", "h g")...), api.ErrLoop},
		{append(deep, topics("f e")...), api.ErrLarge},
		{topics("a b", "b c", "c d", "d e", "e f", "f"), api.ErrLarge},
	} {
		if e := topic.CheckForest(c.l); e != c.want {
			t.Errorf("got %d, want %d: %s", e, c.want, show(c.l))
		}
		for name, e := range withForest(c.l) {
			if own := e != api.OK || name == "PrintForest"; c.want != api.OK && e != c.want || !own {
				t.Errorf("%s: got %d, want %d: %s", name, e, c.want, show(c.l))
			}
		}
	}
	for _, s := range badKeys {
		is(t, all(s, topic.CheckForest([]api.Topic{{Key: s}})), all(s, api.ErrName))
		if s != "" {
			is(t, all(s, topic.CheckForest([]api.Topic{{Key: "a", Above: s}})), all(s, api.ErrName))
		}
	}
}

// P3.1: Above and Below.
func TestAboveAndBelow(t *testing.T) {
	l := topics("a c", "b a", "c", "d c", "e")
	for _, c := range []struct {
		key          string
		above, below []string
	}{
		{"a", []string{"a", "c"}, []string{"a", "b"}},
		{"b", []string{"b", "a", "c"}, []string{"b"}},
		{"c", []string{"c"}, []string{"a", "b", "c", "d"}},
		{"d", []string{"d", "c"}, []string{"d"}},
		{"e", []string{"e"}, []string{"e"}},
	} {
		is(t, pack(topic.Above(l, c.key)), all(c.above, api.OK))
		is(t, pack(topic.Below(l, c.key)), all(c.below, api.OK))
	}
	for _, key := range []string{"", "x", "A", "aa"} {
		is(t, pack(topic.Above(l, key)), all([]string{}, api.ErrNone))
		is(t, pack(topic.Below(l, key)), all([]string{}, api.ErrNone))
	}
}

// P3.1: Meet and Near.
func TestMeetAndNear(t *testing.T) {
	l := append(bakery(), topics("stollen cake", "torte cake")...)
	for _, c := range []struct {
		a, b, meet string
		num, den   int
	}{
		{"cake", "rolls", "bread", 1, 2},
		{"cake", "bread", "bread", 2, 3},
		{"bread", "bread", "bread", 1, 1},
		{"stollen", "stollen", "stollen", 1, 1},
		{"stollen", "torte", "cake", 2, 3},
		{"stollen", "cake", "cake", 4, 5},
		{"stollen", "rolls", "bread", 2, 5},
		{"stollen", "bread", "bread", 1, 2},
		{"art", "bread", "", 0, 1},
		{"art", "torte", "", 0, 1},
	} {
		near := api.Fraction{Num: c.num, Den: c.den}
		is(t, all(pack(topic.Meet(l, c.a, c.b)), pack(topic.Near(l, c.a, c.b))), all(all(c.meet, api.OK), all(near, api.OK)))
		is(t, all(pack(topic.Meet(l, c.b, c.a)), pack(topic.Near(l, c.b, c.a))), all(all(c.meet, api.OK), all(near, api.OK)))
	}
	for _, c := range [][2]string{{"cake", "x"}, {"x", "cake"}, {"x", "x"}, {"", ""}, {"art", ""}} {
		is(t, pack(topic.Meet(l, c[0], c[1])), all("", api.ErrNone))
		is(t, pack(topic.Near(l, c[0], c[1])), all(api.Fraction{}, api.ErrNone))
	}
	// As deep as it can be.
	l = topics("a", "b a", "c b", "d c", "e d", "f d")
	is(t, pack(topic.Near(l, "e", "f")), all(api.Fraction{Num: 4, Den: 5}, api.OK))
	is(t, pack(topic.Near(l, "e", "a")), all(api.Fraction{Num: 1, Den: 3}, api.OK))
	is(t, pack(topic.Near(l, "d", "e")), all(api.Fraction{Num: 8, Den: 9}, api.OK))
}

// plainWay is a topic and those above it, as the document says it.
func plainWay(l []api.Topic, key string) []string {
	for _, t := range l {
		if t.Key == key {
			return append([]string{key}, plainWay(l, t.Above)...)
		}
	}
	return nil
}

func plainMeet(l []api.Topic, a, b string) string {
	meet := ""
	for _, t := range l {
		both := slices.Contains(plainWay(l, a), t.Key) && slices.Contains(plainWay(l, b), t.Key)
		if both && len(plainWay(l, t.Key)) > len(plainWay(l, meet)) {
			meet = t.Key
		}
	}
	return meet
}

func plainNear(l []api.Topic, a, b string) *big.Rat {
	depth := func(key string) int64 { return int64(len(plainWay(l, key))) }
	return big.NewRat(2*depth(plainMeet(l, a, b)), depth(a)+depth(b))
}

// P3.1: all topics of some forests, compared with plain versions.
func TestForestsPlain(t *testing.T) {
	d := dice(3)
	for range 60 {
		l := d.forest(t)
		for _, x := range l {
			is(t, pack(topic.Above(l, x.Key)), all(plainWay(l, x.Key), api.OK))
			below := []string{}
			for _, y := range l {
				if slices.Contains(plainWay(l, y.Key), x.Key) {
					below = append(below, y.Key)
				}
				is(t, pack(topic.Meet(l, x.Key, y.Key)), all(plainMeet(l, x.Key, y.Key), api.OK))
				is(t, pack(topic.Near(l, x.Key, y.Key)), all(fraction(plainNear(l, x.Key, y.Key)), api.OK))
			}
			is(t, pack(topic.Below(l, x.Key)), all(below, api.OK))
		}
	}
}
