package calibrate_test

import (
	"fmt"
	"math/big"
	"slices"
	"strconv"
	"strings"
	"testing"

	"rebuttal/api"
	"rebuttal/calibrate"
)

// show writes a value so that nil and empty lists are the same (Z5).
func show(v any) string {
	return strings.ReplaceAll(fmt.Sprintf("%#v", v), "(nil)", "{}")
}

func is(t *testing.T, got, want any) {
	t.Helper()
	if g, w := show(got), show(want); g != w {
		t.Errorf("got %.2000s, want %.2000s", g, w)
	}
}

// all makes a list of the results of a call.
func all(l ...any) []any { return l }

// pack makes a list of the two results of a call.
func pack[T any](v T, e api.Errno) []any { return all(v, e) }

// pack3 makes a list of the three results of a call.
func pack3[T, U any](v T, w U, e api.Errno) []any { return all(v, w, e) }

// rung is the error that a value has, and how it is put right.
type rung[T any] struct {
	want api.Errno
	fix  func(*T)
}

// climb puts right what is wrong with a value, one after the other, and asks for the error before each step.
func climb[T any](t *testing.T, x T, check func(T) api.Errno, rungs []rung[T]) {
	t.Helper()
	for i, r := range rungs {
		if e := check(x); e != r.want {
			t.Errorf("rung %d: got %d, want %d: %.300s", i, e, r.want, show(x))
		}
		r.fix(&x)
	}
	if e := check(x); e != api.OK {
		t.Errorf("at the end: got %d: %.300s", e, show(x))
	}
}

// badKeys are strings that are no keys.
var badKeys = []string{"", "A", "0", "-a", "_a", "a b", "a.", "ä", "a\n", "aB", "a\x00", strings.Repeat("k", api.MaxName+1)}

func mark(paper, person string, score int) api.Mark {
	return api.Mark{Pair: api.Pair{Paper: paper, Person: person}, Score: score}
}

// marks have a paper, a person and a score, with blanks between them.
func marks(lines ...string) []api.Mark {
	var l []api.Mark
	for _, line := range lines {
		words := strings.Fields(line)
		score, err := strconv.Atoi(words[2])
		if err != nil {
			panic(err)
		}
		l = append(l, mark(words[0], words[1], score))
	}
	return l
}

// example is the one of the document.
func example() []api.Mark { return marks("p a 8", "p b 5", "q a 6", "q b 3") }

// keys are so many, in order.
func keys(n int) []string {
	var l []string
	for i := range n {
		l = append(l, fmt.Sprintf("k%04d", i))
	}
	return l
}

// grid is marks of so many papers, all by the same so many persons.
func grid(papers, people int) []api.Mark {
	var l []api.Mark
	for i, paper := range keys(papers) {
		for j, person := range keys(people) {
			l = append(l, mark(paper, person, (i*7+j*3+i*j)%(api.MaxScore+1)))
		}
	}
	return l
}

// dice is a row of numbers that look thrown, and are the same each time.
type dice uint64

func (d *dice) below(n int) int {
	*d = *d*6364136223846793005 + 1442695040888963407
	return int(uint64(*d)>>33) % n
}

func (d *dice) pick(l []string) string { return l[d.below(len(l))] }

// marks are some of up to so many papers and persons, with few different scores.
func (d *dice) marks(t *testing.T, papers, people int) []api.Mark {
	t.Helper()
	papers, people = d.below(papers)+1, d.below(people)+1
	rare, scores := d.below(4)+1, d.below(api.MaxScore+1)+1
	var l []api.Mark
	for _, paper := range keys(papers) {
		for _, person := range keys(people) {
			if d.below(rare) == 0 {
				l = append(l, mark(paper, person, d.below(scores)))
			}
		}
	}
	is(t, calibrate.CheckMarks(l), api.OK)
	return l
}

// shuffled are strings in any order.
func (d *dice) shuffled(l []string) []string {
	l = slices.Clone(l)
	for i := range l {
		j := d.below(i + 1)
		l[i], l[j] = l[j], l[i]
	}
	return l
}

// The plain versions: what the document says, word for word.

func fr(num, den int) api.Fraction { return api.Fraction{Num: num, Den: den} }

func rat(num, den int) *big.Rat { return big.NewRat(int64(num), int64(den)) }

func whole(n int) *big.Rat { return rat(n, 1) }

func toRat(f api.Fraction) *big.Rat { return rat(f.Num, f.Den) }

func fraction(r *big.Rat) api.Fraction {
	return fr(int(r.Num().Int64()), int(r.Denom().Int64()))
}

func plus(a, b *big.Rat) *big.Rat { return new(big.Rat).Add(a, b) }

func minus(a, b *big.Rat) *big.Rat { return new(big.Rat).Sub(a, b) }

func times(a, b *big.Rat) *big.Rat { return new(big.Rat).Mul(a, b) }

func by(a, b *big.Rat) *big.Rat { return new(big.Rat).Quo(a, b) }

func total(l []*big.Rat) *big.Rat {
	sum := whole(0)
	for _, r := range l {
		sum = plus(sum, r)
	}
	return sum
}

func plainMean(l []*big.Rat) *big.Rat { return by(total(l), whole(len(l))) }

// rats are the scores of marks.
func rats(l []api.Mark) []*big.Rat {
	var r []*big.Rat
	for _, m := range l {
		r = append(r, whole(m.Score))
	}
	return r
}

// which are the marks that are wanted.
func which(l []api.Mark, wanted func(api.Mark) bool) []api.Mark {
	var some []api.Mark
	for _, m := range l {
		if wanted(m) {
			some = append(some, m)
		}
	}
	return some
}

func of(l []api.Mark, paper string) []api.Mark {
	return which(l, func(m api.Mark) bool { return m.Paper == paper })
}

func byPerson(l []api.Mark, person string) []api.Mark {
	return which(l, func(m api.Mark) bool { return m.Person == person })
}

// score is the one that a person gives a paper.
func score(l []api.Mark, paper, person string) (int, bool) {
	for _, m := range l {
		if m.Paper == paper && m.Person == person {
			return m.Score, true
		}
	}
	return 0, false
}

// plainKeys are those of marks, sorted, each once.
func plainKeys(l []api.Mark, key func(api.Mark) string) []string {
	there := map[string]bool{}
	for _, m := range l {
		there[key(m)] = true
	}
	var keys []string
	for k := range there {
		keys = append(keys, k)
	}
	slices.Sort(keys)
	return keys
}

func papersOf(l []api.Mark) []string {
	return plainKeys(l, func(m api.Mark) string { return m.Paper })
}

func peopleOf(l []api.Mark) []string {
	return plainKeys(l, func(m api.Mark) string { return m.Person })
}
