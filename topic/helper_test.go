package topic_test

import (
	"fmt"
	"math/big"
	"slices"
	"strings"
	"testing"

	"rebuttal/api"
	"rebuttal/topic"
)

// show writes a value so that nil and empty lists are the same (Z5).
func show(v any) string {
	return strings.ReplaceAll(fmt.Sprintf("%#v", v), "(nil)", "{}")
}

func is(t *testing.T, got, want any) {
	t.Helper()
	if g, w := show(got), show(want); g != w {
		t.Errorf("got %s, want %s", g, w)
	}
}

// all makes a list of the results of a call.
func all(l ...any) []any { return l }

// pack makes a list of the two results of a call.
func pack[T any](v T, e api.Errno) []any { return all(v, e) }

// rung is the error that a value has, and how it is put right.
type rung[T any] struct {
	want api.Errno
	fix  func(*T)
}

// climb puts right what is wrong with a value, one after the other, and asks for the error before each step.
func climb[T any](t *testing.T, x T, check func(T) api.Errno, rungs []rung[T]) {
	t.Helper()
	for i, r := range rungs {
		if e := check(x); e != r.want {
			t.Errorf("rung %d: got %d, want %d: %s", i, e, r.want, show(x))
		}
		r.fix(&x)
	}
	if e := check(x); e != api.OK {
		t.Errorf("at the end: got %d: %s", e, show(x))
	}
}

// keys are so many, in order.
func keys(n int) []string {
	l := []string{}
	for i := range n {
		l = append(l, fmt.Sprintf("k%04d", i))
	}
	return l
}

// badKeys are strings that are no keys.
var badKeys = []string{"", "A", "0", "-a", "_a", "a b", "a.", "ä", "a\n", "aB", "a\x00", strings.Repeat("k", api.MaxName+1)}

// topics are some of which each has a word with its Key, and one with Above behind it if there is one.
func topics(words ...string) []api.Topic {
	var l []api.Topic
	for _, w := range words {
		key, above, _ := strings.Cut(w, " ")
		l = append(l, api.Topic{Key: key, Above: above})
	}
	return l
}

// bakery is the forest of the document's example.
func bakery() []api.Topic { return topics("art", "bread", "cake bread", "rolls bread") }

// manyTopics are in rows of five, each one below the one before.
func manyTopics(n int) []api.Topic {
	l := topics(keys(n)...)
	for i := range l {
		if i%(api.MaxAbove+1) > 0 {
			l[i].Above = l[i-1].Key
		}
	}
	return l
}

// skills have Topics and Weights in turns.
func skills(l ...any) []api.Skill {
	var s []api.Skill
	for i := 0; i < len(l); i += 2 {
		s = append(s, api.Skill{Topic: l[i].(string), Weight: l[i+1].(int)})
	}
	return s
}

func paper(id, authors, topics string) api.Paper {
	return api.Paper{Id: id, Track: "main", Title: "On It", Authors: strings.Fields(authors), Topics: strings.Fields(topics)}
}

func reader(key string, s ...any) api.Reader { return api.Reader{Key: key, Skills: skills(s...)} }

func bid(paper, person string, level int) api.Bid {
	return api.Bid{Pair: api.Pair{Paper: paper, Person: person}, Level: level}
}

func half() api.Fraction { return api.Fraction{Num: 1, Den: 2} }

// fraction is a big one as a small one.
func fraction(r *big.Rat) api.Fraction {
	return api.Fraction{Num: int(r.Num().Int64()), Den: int(r.Denom().Int64())}
}

// floor is a fraction times a number, rounded down.
func floor(r *big.Rat, by int) int {
	x := new(big.Rat).Mul(r, big.NewRat(int64(by), 1))
	return int(new(big.Int).Quo(x.Num(), x.Denom()).Int64())
}

// dice is a row of numbers that look thrown, and are the same each time.
type dice uint64

func (d *dice) below(n int) int {
	*d = *d*6364136223846793005 + 1442695040888963407
	return int(uint64(*d)>>33) % n
}

func (d *dice) pick(l []string) string { return l[d.below(len(l))] }

// some are up to n different strings of a list, sorted.
func (d *dice) some(l []string, n int) []string {
	s := []string{}
	for range d.below(n + 1) {
		s = append(s, d.pick(l))
	}
	slices.Sort(s)
	return slices.Compact(s)
}

// forest is a small one; topics can be above others that come before them.
func (d *dice) forest(t *testing.T) []api.Topic {
	t.Helper()
	var l []api.Topic
	depth := map[string]int{}
	for i := range 1 + d.below(14) {
		x := api.Topic{Key: fmt.Sprintf("%c%d", 'a'+d.below(26), i)}
		if i > 0 && d.below(5) > 0 {
			above := l[d.below(i)].Key
			if depth[above] < api.MaxAbove {
				x.Above = above
				depth[x.Key] = depth[above] + 1
			}
		}
		l = append(l, x)
	}
	slices.SortFunc(l, func(a, b api.Topic) int { return strings.Compare(a.Key, b.Key) })
	is(t, topic.CheckForest(l), api.OK)
	return l
}

func topicKeys(l []api.Topic) []string {
	s := []string{}
	for _, t := range l {
		s = append(s, t.Key)
	}
	return s
}

func (d *dice) skills(l []api.Topic, n int) []api.Skill {
	var s []api.Skill
	for _, key := range d.some(topicKeys(l), n) {
		s = append(s, api.Skill{Topic: key, Weight: 1 + d.below(100)})
	}
	return s
}

// fair is papers, readers and bids of a forest.
type fair struct {
	l      []api.Topic
	papers []api.Paper
	r      []api.Reader
	b      []api.Bid
}

func (d *dice) fair(t *testing.T) fair {
	t.Helper()
	x := fair{l: d.forest(t)}
	names := []string{"ann", "bo", "cid", "dan", "eva", "fay"}
	for _, id := range d.some([]string{"p1", "p2", "p3", "p4", "p5", "p6", "p7"}, 8) {
		authors := append(d.some(names, 2), "zoe")
		x.papers = append(x.papers, paper(id, strings.Join(authors, " "), strings.Join(d.some(topicKeys(x.l), 4), " ")))
	}
	for _, name := range d.some(names, 7) {
		x.r = append(x.r, api.Reader{Key: name, Skills: d.skills(x.l, 4)})
	}
	for _, p := range x.papers {
		for _, r := range x.r {
			if d.below(3) > 0 {
				x.b = append(x.b, bid(p.Id, r.Key, 1+d.below(4)))
			}
		}
	}
	return x
}
