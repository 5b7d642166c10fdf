package proceed_test

import (
	"fmt"
	"math"
	"slices"
	"strconv"
	"strings"
	"testing"

	"rebuttal/api"
	"rebuttal/proceed"
)

// show writes a value so that nil and empty lists are the same (Z5).
func show(v any) string {
	return strings.ReplaceAll(fmt.Sprintf("%#v", v), "(nil)", "{}")
}

func is(t *testing.T, got, want any) {
	t.Helper()
	if g, w := show(got), show(want); g != w {
		t.Errorf("got %.2000s, want %.2000s", g, w)
	}
}

// all makes a list of the results of a call.
func all(l ...any) []any { return l }

// pack makes a list of the two results of a call.
func pack[T any](v T, e api.Errno) []any { return all(v, e) }

// pack3 makes a list of the three results of a call.
func pack3[T, U any](v T, w U, e api.Errno) []any { return all(v, w, e) }

// rung is the error that a value has, and how it is put right.
type rung[T any] struct {
	want api.Errno
	fix  func(*T)
}

// climb puts right what is wrong with a value, one after the other, and asks for the error before each step.
func climb[T any](t *testing.T, x T, check func(T) api.Errno, rungs []rung[T]) {
	t.Helper()
	for i, r := range rungs {
		if e := check(x); e != r.want {
			t.Errorf("rung %d: got %d, want %d: %.300s", i, e, r.want, show(x))
		}
		r.fix(&x)
	}
	if e := check(x); e != api.OK {
		t.Errorf("at the end: got %d: %.300s", e, show(x))
	}
}

// at changes one element of a list.
func at[T any](i int, change func(*T)) func(*[]T) {
	return func(l *[]T) { change(&(*l)[i]) }
}

// badKeys are strings that are no keys.
var badKeys = []string{"", "A", "0", "-a", "_a", "a b", "a.", "ä", "a\n", "aB", "a\x00", strings.Repeat("k", api.MaxName+1)}

// badLabels are strings that are not plain, or are empty.
var badLabels = []string{"", " ", " a", "a ", "a  b", "a\n", "a\tb", "\x00", "a\x7f", "\xff", "\xc3"}

// keys are so many, in order.
func keys(n int) []string {
	l := []string{}
	for i := range n {
		l = append(l, fmt.Sprintf("k%04d", i))
	}
	return l
}

func number(s string) int {
	n, err := strconv.Atoi(s)
	if err != nil {
		panic(err)
	}
	return n
}

// blanks are there for low lines.
func blanks(s string) string { return strings.ReplaceAll(s, "_", " ") }

// made makes an element of each line, of its words.
func made[T any](lines []string, element func([]string) T) []T {
	var l []T
	for _, line := range lines {
		l = append(l, element(strings.Fields(line)))
	}
	return l
}

// credits have a key and a name.
func credits(words ...string) []api.Credit {
	var l []api.Credit
	for _, w := range words {
		key, name, _ := strings.Cut(w, "=")
		l = append(l, api.Credit{Key: key, Name: blanks(name)})
	}
	return l
}

// finals have a paper, Pages, a title and credits.
func finals(lines ...string) []api.Final {
	return made(lines, func(w []string) api.Final {
		return api.Final{Paper: w[0], Pages: number(w[1]), Title: blanks(w[2]), Credits: credits(w[3:]...)}
	})
}

// chapters have a title and papers.
func chapters(lines ...string) []api.Chapter {
	return made(lines, func(w []string) api.Chapter { return api.Chapter{Title: blanks(w[0]), Papers: w[1:]} })
}

// decisions have a paper and yes or no.
func decisions(lines ...string) []api.Decision {
	return made(lines, func(w []string) api.Decision { return api.Decision{Paper: w[0], Yes: w[1] == "yes"} })
}

// errata have a paper, a key (`-` for the title), Old and New.
func errata(lines ...string) []api.Erratum {
	return made(lines, func(w []string) api.Erratum {
		x := api.Erratum{Paper: w[0], Field: api.FieldName, Key: w[1], Old: blanks(w[2]), New: blanks(w[3])}
		if w[1] == "-" {
			x.Field, x.Key = api.FieldTitle, ""
		}
		return x
	})
}

// ballots have Many and ranks.
func ballots(lines ...string) []api.Ballot {
	return made(lines, func(w []string) api.Ballot { return api.Ballot{Many: number(w[0]), Ranks: w[1:]} })
}

// claims have a person, Least, Most and Points.
func claims(lines ...string) []api.Claim {
	return made(lines, func(w []string) api.Claim {
		return api.Claim{Person: w[0], Least: number(w[1]), Most: number(w[2]), Points: number(w[3])}
	})
}

// paid have a person and cents.
func paid(lines ...string) []api.Paid {
	return made(lines, func(w []string) api.Paid { return api.Paid{Person: w[0], Cents: number(w[1])} })
}

// example has papers of one page and of several; ann is printed with two names.
func example() []api.Final {
	return finals(
		"p 3 On_trees ann=Ana_de_la_Cruz bob=Jean-Luc_Ray",
		"q 2 On_roots ann=Ana_de_la_Cruz",
		"r 1 On_moss cid=von_Moos ann=Ana_Cruz bob=Jean-Luc_Ray",
		"s 4 On_soil dee=Plato",
	)
}

// bound is a volume of the example; s is not in it.
func bound() api.Volume {
	return api.Volume{First: 10, Right: true, Chapters: chapters("Plants q p", "Empty", "Others r")}
}

// many are so many finals that are as short as can be.
func many(n int) []api.Final {
	var l []api.Final
	for _, key := range keys(n) {
		l = append(l, finals(key+" 1 T a=A")...)
	}
	return l
}

// dice is a row of numbers that look thrown, and are the same each time.
type dice uint64

func (d *dice) below(n int) int {
	*d = *d*6364136223846793005 + 1442695040888963407
	return int(uint64(*d)>>33) % n
}

func (d *dice) pick(l []string) string { return l[d.below(len(l))] }

// some are those strings of a list to which one of so many dice says yes.
func (d *dice) some(l []string, rare int) []string {
	var some []string
	for _, s := range l {
		if d.below(rare) == 0 {
			some = append(some, s)
		}
	}
	return some
}

// odd is a number that is mostly small.
func (d *dice) odd(most int) int {
	if d.below(10) > 0 {
		return d.below(most)
	}
	l := []int{math.MinInt, -1, 0, most, api.MaxCents + 1, math.MaxInt}
	return l[d.below(len(l))]
}

// shuffled are elements in any order.
func shuffled[T any](d *dice, l []T) []T {
	l = slices.Clone(l)
	for i := range l {
		j := d.below(i + 1)
		l[i], l[j] = l[j], l[i]
	}
	return l
}

var (
	somePapers = []string{"p", "q", "r", "s", "t", "u"}
	somePeople = []string{"ann", "bob", "cid", "dee"}
	someTitles = []string{"On trees", "On roots", "On moss", "T", "by"}
	someWords  = []string{"de", "la", "von", "van", "der", "Ray", "ray", "Ann", "O'Neil", "Oneil", "-", "--", "-a", "a-", "a--b", "Jean-Luc", "Ä-ß", "É.", "9", "De", "dé", "\u00a0"}
)

// name is a plain one of up to five words.
func (d *dice) name() string {
	var words []string
	for range 1 + d.below(5) {
		words = append(words, d.pick(someWords))
	}
	return strings.Join(words, " ")
}

// finals are those of some papers; names are often the same.
func (d *dice) finals(t *testing.T) []api.Final {
	t.Helper()
	var l []api.Final
	names := []string{d.name(), d.name(), d.name()}
	for _, paper := range d.some(somePapers, 2) {
		f := api.Final{Paper: paper, Title: d.pick(someTitles), Pages: 1 + d.below(5)}
		for _, key := range shuffled(d, append(d.some(somePeople, 2), "eve")) {
			f.Credits = append(f.Credits, api.Credit{Key: key, Name: d.pick(names)})
		}
		l = append(l, f)
	}
	is(t, proceed.CheckFinals(l), api.OK)
	return l
}

// volume has most of the finals.
func (d *dice) volume(t *testing.T, l []api.Final) api.Volume {
	t.Helper()
	v := api.Volume{First: 1 + d.below(20), Right: d.below(2) == 0}
	for range d.below(4) {
		v.Chapters = append(v.Chapters, api.Chapter{Title: d.pick(someTitles)})
	}
	for _, f := range shuffled(d, l) {
		if n := len(v.Chapters); n > 0 && d.below(5) > 0 {
			c := &v.Chapters[d.below(n)]
			c.Papers = append(c.Papers, f.Paper)
		}
	}
	is(t, proceed.CheckVolume(v, l), api.OK)
	return v
}

// plainPapers are those of a volume, in order.
func plainPapers(v api.Volume) []string {
	var l []string
	for _, c := range v.Chapters {
		l = append(l, c.Papers...)
	}
	return l
}

func plainFinal(l []api.Final, paper string) (api.Final, bool) {
	for _, f := range l {
		if f.Paper == paper {
			return f, true
		}
	}
	return api.Final{}, false
}

// plainPages turns the pages of a volume one by one.
func plainPages(v api.Volume, l []api.Final) []api.Leaf {
	var leaves []api.Leaf
	page := v.First
	for _, paper := range plainPapers(v) {
		for v.Right && page%2 != 1 {
			page++
		}
		f, _ := plainFinal(l, paper)
		leaf := api.Leaf{Paper: paper, From: page}
		for range f.Pages {
			leaf.To = page
			page++
		}
		leaves = append(leaves, leaf)
	}
	return leaves
}

// plainLeaf is the leaf of a paper of a volume.
func plainLeaf(v api.Volume, l []api.Final, paper string) (api.Leaf, bool) {
	for _, leaf := range plainPages(v, l) {
		if leaf.Paper == paper {
			return leaf, true
		}
	}
	return api.Leaf{}, false
}
