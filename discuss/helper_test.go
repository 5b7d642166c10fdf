package discuss_test

import (
	"fmt"
	"math"
	"math/big"
	"slices"
	"strconv"
	"strings"
	"testing"

	"rebuttal/api"
	"rebuttal/discuss"
)

// show writes a value so that nil and empty lists are the same (Z5).
func show(v any) string {
	return strings.ReplaceAll(fmt.Sprintf("%#v", v), "(nil)", "{}")
}

func is(t *testing.T, got, want any) {
	t.Helper()
	if g, w := show(got), show(want); g != w {
		t.Errorf("got %.2000s, want %.2000s", g, w)
	}
}

// all makes a list of the results of a call.
func all(l ...any) []any { return l }

// pack makes a list of the two results of a call.
func pack[T any](v T, e api.Errno) []any { return all(v, e) }

// pack3 makes a list of the three results of a call.
func pack3[T, U any](v T, w U, e api.Errno) []any { return all(v, w, e) }

// rung is the error that a value has, and how it is put right.
type rung[T any] struct {
	want api.Errno
	fix  func(*T)
}

// climb puts right what is wrong with a value, one after the other, and asks for the error before each step.
func climb[T any](t *testing.T, x T, check func(T) api.Errno, rungs []rung[T]) {
	t.Helper()
	for i, r := range rungs {
		if e := check(x); e != r.want {
			t.Errorf("rung %d: got %d, want %d: %.300s", i, e, r.want, show(x))
		}
		r.fix(&x)
	}
	if e := check(x); e != api.OK {
		t.Errorf("at the end: got %d: %.300s", e, show(x))
	}
}

// at changes one element of a list.
func at[T any](i int, change func(*T)) func(*[]T) {
	return func(l *[]T) { change(&(*l)[i]) }
}

// badKeys are strings that are no keys.
var badKeys = []string{"", "A", "0", "-a", "_a", "a b", "a.", "ä", "a\n", "aB", "a\x00", strings.Repeat("k", api.MaxName+1)}

// badWords are strings that are no texts, or empty.
var badWords = []string{"", "a", "a\nb", "\t\n", "\r\n", "\x00\n", "\x7f\n", "\xff\n", "\xed\xa0\x80\n"}

// badMoments are numbers that are no moments.
var badMoments = []int{-1, api.End, math.MinInt, math.MaxInt}

// last is the last moment.
const last = api.End - 1

// keys are so many, in order.
func keys(n int) []string {
	l := []string{}
	for i := range n {
		l = append(l, fmt.Sprintf("k%04d", i))
	}
	return l
}

// letters are keys of one letter each.
func letters(s string) []string {
	l := []string{}
	for _, r := range s {
		l = append(l, string(r))
	}
	return l
}

func pair(paper, person string) api.Pair { return api.Pair{Paper: paper, Person: person} }

// list are pairs with a blank between paper and person.
func list(words ...string) []api.Pair {
	var l []api.Pair
	for _, w := range words {
		paper, person, _ := strings.Cut(w, " ")
		l = append(l, pair(paper, person))
	}
	return l
}

// many are so many pairs, in order.
func many(n int) []api.Pair {
	var l []api.Pair
	for i := range n {
		l = append(l, pair(fmt.Sprintf("k%04d", i/api.MaxPeople), fmt.Sprintf("k%04d", i%api.MaxPeople)))
	}
	return l
}

func number(s string) int {
	n, err := strconv.Atoi(s)
	if err != nil {
		panic(err)
	}
	return n
}

func mark(paper, person string, score int) api.Mark {
	return api.Mark{Pair: pair(paper, person), Score: score}
}

// marks are lines of a paper and the scores that a, b and so on give it.
func marks(lines ...string) []api.Mark {
	var l []api.Mark
	for _, line := range lines {
		words := strings.Fields(line)
		for i, score := range words[1:] {
			l = append(l, mark(words[0], string(rune('a'+i)), number(score)))
		}
	}
	return l
}

// grid are marks of so many papers by so many persons.
func grid(papers, people int) []api.Mark {
	var l []api.Mark
	for i, paper := range keys(papers) {
		for j, person := range keys(people) {
			l = append(l, mark(paper, person, (i*7+j*3+i*j)%(api.MaxScore+1)))
		}
	}
	return l
}

func paper(id, track string) api.Paper {
	return api.Paper{Id: id, Track: track, Title: "A title", Authors: []string{"z"}}
}

// papers have an id and a track, with a slash between them.
func papers(words ...string) []api.Paper {
	var l []api.Paper
	for _, w := range words {
		id, track, _ := strings.Cut(w, "/")
		l = append(l, paper(id, track))
	}
	return l
}

// turns have an At, a paper, and open or shut.
func turns(lines ...string) []api.Turn {
	var l []api.Turn
	for _, line := range lines {
		words := strings.Fields(line)
		l = append(l, api.Turn{At: number(words[0]), Paper: words[1], Open: words[2] == "open"})
	}
	return l
}

// example has a head who is barred for one paper and reads another one; threads that are open twice, once, for no time, and never.
func example() api.Board {
	return api.Board{
		Pairs:  list("p ann", "p bob", "q bob", "q hal", "r ann", "s cid"),
		Barred: list("p cid", "p hal", "r dee", "t kim"),
		Heads:  []string{"hal", "kim"},
		Turns:  turns("10 p open", "10 q open", "20 p shut", "30 p open", "30 p shut", "30 p open", "40 r open", "40 r shut", "50 q shut", "60 t open"),
	}
}

// posts have an At, a paper, a person, a To, and words; their Nos begin with 1.
func posts(lines ...string) []api.Post {
	var l []api.Post
	for i, line := range lines {
		words := strings.SplitN(line, " ", 5)
		l = append(l, api.Post{No: i + 1, At: number(words[0]), Paper: words[1], Person: words[2], To: number(words[3]), Words: words[4] + "\n"})
	}
	return l
}

// some are posts of the example: threads of two papers that go through each other.
func some() []api.Post {
	return posts(
		"10 p ann 0 one",
		"10 q bob 0 two",
		"11 p kim 1 three",
		"12 p ann 0 four",
		"13 q hal 2 five",
		"14 p bob 1 six",
		"19 p ann 3 seven",
		"30 p ann 1 eight",
		"31 p kim 4 nine",
		"49 q hal 5 ten",
		"50 p bob 7 eleven",
	)
}

// lots are so many posts.
func lots(n int) []api.Post {
	var l []api.Post
	for i := range n {
		l = append(l, api.Post{No: i + 1, At: 60, Paper: "p", Person: "ann", To: i, Words: "a\n"})
	}
	return l
}

// dice is a row of numbers that look thrown, and are the same each time.
type dice uint64

func (d *dice) below(n int) int {
	*d = *d*6364136223846793005 + 1442695040888963407
	return int(uint64(*d)>>33) % n
}

func (d *dice) pick(l []string) string { return l[d.below(len(l))] }

// some are those strings of a list to which one of so many dice says yes.
func (d *dice) some(l []string, rare int) []string {
	var some []string
	for _, s := range l {
		if d.below(rare) == 0 {
			some = append(some, s)
		}
	}
	return some
}

// shuffled are elements in any order.
func shuffled[T any](d *dice, l []T) []T {
	l = slices.Clone(l)
	for i := range l {
		j := d.below(i + 1)
		l[i], l[j] = l[j], l[i]
	}
	return l
}

// pairs are some of those of papers and persons: of so many dice, one has to say yes.
func (d *dice) pairs(papers, people []string, rare int) []api.Pair {
	var l []api.Pair
	for _, p := range papers {
		for _, a := range people {
			if d.below(rare) == 0 {
				l = append(l, pair(p, a))
			}
		}
	}
	return l
}

var (
	somePapers = []string{"p", "q", "r", "s", "t", "u"}
	somePeople = []string{"a", "b", "c", "d", "e"}
	someTexts  = []string{"\n", "a\n", "a\n\nb\n", " |x\n", "|\n", "ä\n", "b\n", "ab\n"}
)

// marks are some of a few papers and persons, with few different scores.
func (d *dice) marks(t *testing.T) []api.Mark {
	t.Helper()
	rare, scores := d.below(4)+1, d.below(api.MaxScore+1)+1
	var l []api.Mark
	for _, p := range d.pairs(somePapers, somePeople, rare) {
		l = append(l, api.Mark{Pair: p, Score: d.below(scores)})
	}
	is(t, discuss.CheckMarks(l), api.OK)
	return l
}

// replies are up to n, with few different moments.
func (d *dice) replies(n int) []api.Reply {
	var l []api.Reply
	for range d.below(n + 1) {
		l = append(l, api.Reply{Paper: d.pick(somePapers), At: d.below(6), Words: d.pick(someTexts)})
	}
	return l
}

// board has turns at moments up to n.
func (d *dice) board(t *testing.T, n int) api.Board {
	t.Helper()
	b := api.Board{Barred: d.pairs(somePapers, somePeople, 6), Heads: d.some(somePeople, 4)}
	for _, p := range d.pairs(somePapers, somePeople, 2) {
		if !slices.Contains(b.Barred, p) {
			b.Pairs = append(b.Pairs, p)
		}
	}
	open := map[string]bool{}
	for at := range n + 1 {
		for range d.below(4) {
			p := d.pick(somePapers)
			open[p] = !open[p]
			b.Turns = append(b.Turns, api.Turn{At: at, Paper: p, Open: open[p]})
		}
	}
	is(t, discuss.CheckBoard(b), api.OK)
	return b
}

// posts are some right ones of a board, at moments up to n.
func (d *dice) posts(t *testing.T, b api.Board, n int) []api.Post {
	t.Helper()
	var l []api.Post
	for at := range n + 1 {
		for range d.below(12) {
			p := api.Post{No: len(l) + 1, At: at, Paper: d.pick(somePapers), Person: d.pick(somePeople), Words: d.pick(someTexts)}
			if !plainMay(b, p.Paper, p.Person, at) {
				continue
			}
			if to := d.below(len(l) + 1); to > 0 && l[to-1].Paper == p.Paper {
				p.To = to
			}
			l = append(l, p)
		}
	}
	is(t, discuss.CheckPosts(b, l), api.OK)
	return l
}

// The plain versions: what the document says, word for word.

// scores are those of a paper, as they come.
func scores(l []api.Mark, paper string) []int {
	var s []int
	for _, m := range l {
		if m.Paper == paper {
			s = append(s, m.Score)
		}
	}
	return s
}

func plainMean(scores []int) *big.Rat {
	sum := new(big.Rat)
	for _, s := range scores {
		sum.Add(sum, big.NewRat(int64(s), 1))
	}
	return sum.Quo(sum, big.NewRat(int64(len(scores)), 1))
}

func fraction(r *big.Rat) api.Fraction {
	return api.Fraction{Num: int(r.Num().Int64()), Den: int(r.Denom().Int64())}
}

// tenTimes compares ten times a number with another one.
func tenTimes(r *big.Rat, n int) int {
	return new(big.Rat).Mul(r, big.NewRat(10, 1)).Cmp(big.NewRat(int64(n), 1))
}

func plainOpen(b api.Board, paper string, at int) bool {
	open := false
	for _, t := range b.Turns {
		if t.Paper == paper && t.At <= at {
			open = t.Open
		}
	}
	return open
}

func plainMay(b api.Board, paper, person string, at int) bool {
	p := pair(paper, person)
	switch {
	case !plainOpen(b, paper, at), slices.Contains(b.Barred, p):
		return false
	}
	return slices.Contains(b.Heads, person) || slices.Contains(b.Pairs, p)
}
