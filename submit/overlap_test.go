package submit_test

import (
	"fmt"
	"math"
	"math/big"
	"slices"
	"strings"
	"testing"

	"rebuttal/api"
	"rebuttal/submit"
)

// P2.8: Runs.
func TestRuns(t *testing.T) {
	for _, x := range []struct {
		a, b  string
		least int
		want  []api.Run
	}{
		{"", "", 1, []api.Run{}},
		{"a\n", "", 1, []api.Run{}},
		{"a\n", "b\n", 1, []api.Run{}},
		{"A, b\nc\n", "a b. C\n", 1, []api.Run{{A: 0, B: 0, Long: 3}}},
		{"a b c\n", "a b c\n", 3, []api.Run{{A: 0, B: 0, Long: 3}}},
		{"a b c\n", "a b c\n", 4, []api.Run{}},
		{"a b c d\n", "b c x b c d\n", 1, []api.Run{{A: 1, B: 0, Long: 2}, {A: 1, B: 3, Long: 3}}},
		{"a b c d\n", "b c x b c d\n", 3, []api.Run{{A: 1, B: 3, Long: 3}}},
		{"a a\n", "a a a\n", 1, []api.Run{{A: 0, B: 0, Long: 2}, {A: 0, B: 1, Long: 2}, {A: 0, B: 2, Long: 1}, {A: 1, B: 0, Long: 1}}},
		{"x a\n", "a x\n", 1, []api.Run{{A: 0, B: 1, Long: 1}, {A: 1, B: 0, Long: 1}}},
	} {
		l, e := submit.Runs(x.a, x.b, x.least)
		is(t, all(x.a, x.b, l, e), all(x.a, x.b, x.want, api.OK))
	}
}

// plainRuns is Runs as the document says it, for each place and length.
func plainRuns(a, b []string, least int) []api.Run {
	runs := []api.Run{}
	for i := range a {
		for j := range b {
			for n := least; i+n <= len(a) && j+n <= len(b); n++ {
				differBefore := i == 0 || j == 0 || a[i-1] != b[j-1]
				differAfter := i+n == len(a) || j+n == len(b) || a[i+n] != b[j+n]
				if slices.Equal(a[i:i+n], b[j:j+n]) && differBefore && differAfter {
					runs = append(runs, api.Run{A: i, B: j, Long: n})
				}
			}
		}
	}
	return runs
}

// plainOverlap counts the words that are in a run.
func plainOverlap(a, b []string, least int) api.Fraction {
	inA, inB := map[int]bool{}, map[int]bool{}
	for _, r := range plainRuns(a, b, least) {
		for k := range r.Long {
			inA[r.A+k] = true
			inB[r.B+k] = true
		}
	}
	if len(a) == 0 || len(b) == 0 {
		return api.Fraction{Num: 0, Den: 1}
	}
	x, y := big.NewRat(int64(len(inA)), int64(len(a))), big.NewRat(int64(len(inB)), int64(len(b)))
	if x.Cmp(y) < 0 {
		x = y
	}
	return api.Fraction{Num: int(x.Num().Int64()), Den: int(x.Denom().Int64())}
}

// P2.8: Runs and Overlap as the document says them, and what follows.
func TestRunsPlainly(t *testing.T) {
	d := dice(29)
	words := []string{"a ", "b ", "c\n", "A. "}
	for range 500 {
		a, b := d.text(14, words), d.text(14, words)
		if d.below(4) == 0 {
			b = d.text(3, words) + a
		}
		last := api.Fraction{Num: 1, Den: 1}
		for least := 1; least < 8; least++ {
			l, e := submit.Runs(a, b, least)
			is(t, all(a, b, l, e), all(a, b, plainRuns(submit.Words(a), submit.Words(b), least), api.OK))
			f, e := submit.Overlap(a, b, least)
			is(t, all(a, b, f, e), all(a, b, plainOverlap(submit.Words(a), submit.Words(b), least), api.OK))
			g, e := submit.Overlap(b, a, least)
			is(t, all(g, e), all(f, api.OK))
			if f.Num*last.Den > last.Num*f.Den {
				t.Errorf("grows with least: %q %q", a, b)
			}
			last = f
			same, e := submit.Overlap(a, a, least)
			want := api.Fraction{Num: 1, Den: 1}
			if len(submit.Words(a)) < least {
				want.Num = 0
			}
			is(t, all(a, same, e), all(a, want, api.OK))
		}
	}
}

// P2.8: Overlap.
func TestOverlapParts(t *testing.T) {
	for _, x := range []struct {
		a, b  string
		least int
		want  api.Fraction
	}{
		{"", "", 1, api.Fraction{Num: 0, Den: 1}},
		{"a\n", "", 1, api.Fraction{Num: 0, Den: 1}},
		{"", ".\n", 1, api.Fraction{Num: 0, Den: 1}},
		{"a b c\n", "d e\n", 1, api.Fraction{Num: 0, Den: 1}},
		{"a b c d\n", "a b x y z w\n", 2, api.Fraction{Num: 1, Den: 2}},
		{"a b c d\n", "a b x y z w\n", 3, api.Fraction{Num: 0, Den: 1}},
		{"a b c d\n", "b c\n", 2, api.Fraction{Num: 1, Den: 1}},
		// A word in two runs counts once.
		{"a b c x x x x x\n", "a b y b c y y y\n", 2, api.Fraction{Num: 1, Den: 2}},
	} {
		f, e := submit.Overlap(x.a, x.b, x.least)
		is(t, all(x.a, x.b, f, e), all(x.a, x.b, x.want, api.OK))
	}
}

// words is a text of so many words, all different if with is empty.
func words(n int, with string) string {
	var b strings.Builder
	for i := range n {
		if with == "" {
			fmt.Fprintf(&b, "w%d ", i)
		} else {
			b.WriteString(with + " ")
		}
	}
	return b.String() + "\n"
}

// P2.8: the errors of Runs and Overlap.
func TestRunsErrors(t *testing.T) {
	type question struct {
		a, b  string
		least int
	}
	many := words(api.MaxRunWords+1, "a")
	q := question{strings.Repeat("\xff", api.MaxBody+1), strings.Repeat("a", api.MaxBody+1), 0}
	rungs := []rung[question]{
		{api.ErrLarge, func(q *question) { q.a = "a" }},
		{api.ErrForm, func(q *question) { q.a = many }},
		{api.ErrLarge, func(q *question) { q.a, q.b = words(api.MaxRunWords, ""), "\xff\n" }},
		{api.ErrForm, func(q *question) { q.b = many }},
		{api.ErrLarge, func(q *question) { q.b = words(api.MaxRunWords, "") }},
		{api.ErrArg, func(q *question) { q.least = -1 }},
		{api.ErrArg, func(q *question) { q.least = 101 }},
		{api.ErrArg, func(q *question) { q.least = math.MinInt }},
		{api.ErrArg, func(q *question) { q.least = math.MaxInt }},
		{api.ErrArg, func(q *question) { q.least = 100 }},
	}
	climb(t, q, func(q question) api.Errno {
		l, e := submit.Runs(q.a, q.b, q.least)
		if e != api.OK {
			is(t, l, []api.Run{})
		}
		return e
	}, rungs)
	climb(t, q, func(q question) api.Errno {
		f, e := submit.Overlap(q.a, q.b, q.least)
		if e != api.OK {
			is(t, f, api.Fraction{})
		}
		return e
	}, rungs)
}

// P2.8: as many runs as there can be, and one more.
func TestManyRuns(t *testing.T) {
	a, b := "", ""
	for i := range 40 {
		a += fmt.Sprintf("w a%d ", i)
	}
	for i := range 50 {
		b += fmt.Sprintf("w b%d ", i)
	}
	l, e := submit.Runs(a+"\n", b+"\n", 1)
	is(t, all(len(l), e), all(api.MaxRuns, api.OK))
	l, e = submit.Runs(a+"z\n", b+"z\n", 1)
	is(t, all(len(l), e), all(0, api.ErrFull))
	l, e = submit.Runs(a+"z\n", b+"z\n", 2)
	is(t, all(len(l), e), all(0, api.OK))
	f, e := submit.Overlap(a+"z\n", b+"z\n", 1)
	is(t, all(f, e), all(api.Fraction{Num: 41, Den: 81}, api.OK))
}

// P2.8: Alike.
func TestAlike(t *testing.T) {
	l := []api.Draft{
		{Id: "e", Text: "a b c d\n"},
		{Id: "c", Text: "a b x y\n"},
		{Id: "a", Text: "c d e f g h i j\n"},
		{Id: "d", Text: "x y q r s t u v\n"},
		{Id: "b", Text: ""},
		{Id: "f", Text: "a b c d\n"},
	}
	one, half, quarter := api.Fraction{Num: 1, Den: 1}, api.Fraction{Num: 1, Den: 2}, api.Fraction{Num: 1, Den: 4}
	want := []api.Twins{{A: "e", B: "f", Overlap: one}, {A: "a", B: "e", Overlap: half}, {A: "a", B: "f", Overlap: half}, {A: "c", B: "d", Overlap: half}, {A: "c", B: "e", Overlap: half}, {A: "c", B: "f", Overlap: half}}
	d := dice(31)
	for _, x := range []struct {
		percent int
		want    []api.Twins
	}{{1, want}, {50, want}, {51, want[:1]}, {100, want[:1]}} {
		got, e := submit.Alike(shuffled(&d, l), 2, x.percent)
		is(t, all(x.percent, got, e), all(x.percent, x.want, api.OK))
	}
	got, e := submit.Alike([]api.Draft{{Id: "b", Text: "a b c d\n"}, {Id: "a", Text: "a b c e f g h i\n"}, {Id: "c", Text: "i x y z\n"}}, 1, 25)
	is(t, all(got, e), all([]api.Twins{{A: "a", B: "b", Overlap: api.Fraction{Num: 3, Den: 4}}, {A: "a", B: "c", Overlap: quarter}}, api.OK))
	// Percents are exact: 199 of 200 words are more than 99 of 100, and less than all.
	near := []api.Draft{{Id: "a", Text: words(200, "")}, {Id: "b", Text: words(199, "") + "z\n"}}
	got, e = submit.Alike(near, 1, 99)
	is(t, all(got, e), all([]api.Twins{{A: "a", B: "b", Overlap: api.Fraction{Num: 199, Den: 200}}}, api.OK))
	got, e = submit.Alike(near, 1, 100)
	is(t, all(got, e), all([]api.Twins{}, api.OK))
	got, e = submit.Alike(nil, 1, 1)
	is(t, all(got, e), all([]api.Twins{}, api.OK))
}

// P2.8: Alike has the overlaps of Overlap, and all that are great enough.
func TestAlikeByOverlap(t *testing.T) {
	d := dice(37)
	for range 60 {
		var l []api.Draft
		for i := range d.below(7) {
			l = append(l, api.Draft{Id: keys(9)[i], Text: d.text(20, []string{"a ", "b ", "c ", "d ", "e "})})
		}
		least, percent := 1+d.below(4), 1+d.below(100)
		want := map[api.Twins]bool{}
		for i, a := range l {
			for _, b := range l[i+1:] {
				f, _ := submit.Overlap(a.Text, b.Text, least)
				if big.NewRat(int64(f.Num), int64(f.Den)).Cmp(big.NewRat(int64(percent), 100)) >= 0 {
					want[api.Twins{A: a.Id, B: b.Id, Overlap: f}] = true
				}
			}
		}
		got, e := submit.Alike(shuffled(&d, l), least, percent)
		is(t, all(len(got), e), all(len(want), api.OK))
		for i, w := range got {
			is(t, all(w, want[w]), all(w, true))
			if i > 0 && !inOrder(got[i-1], w) {
				t.Error(got)
			}
		}
	}
}

func inOrder(a, b api.Twins) bool {
	x, y := big.NewRat(int64(a.Overlap.Num), int64(a.Overlap.Den)), big.NewRat(int64(b.Overlap.Num), int64(b.Overlap.Den))
	return x.Cmp(y) > 0 || x.Cmp(y) == 0 && (a.A < b.A || a.A == b.A && a.B < b.B)
}

// P2.8: the errors of Alike.
func TestAlikeErrors(t *testing.T) {
	type question struct {
		l              []api.Draft
		least, percent int
	}
	q := question{make([]api.Draft, api.MaxDrafts+1), 0, 0}
	climb(t, q, func(q question) api.Errno {
		l, e := submit.Alike(q.l, q.least, q.percent)
		if e != api.OK {
			is(t, l, []api.Twins{})
		}
		return e
	}, []rung[question]{
		{api.ErrLarge, func(q *question) {
			q.l = []api.Draft{{Id: "b", Text: "\n"}, {Id: "B", Text: "a"}, {Id: "c", Text: "a"}}
		}},
		{api.ErrName, func(q *question) { q.l[1].Id = "b" }},
		{api.ErrTwice, func(q *question) { q.l[1].Id, q.l[2].Id = "a", "b" }},
		{api.ErrForm, func(q *question) { q.l[1].Text = strings.Repeat("\xff", api.MaxBody+1) }},
		{api.ErrLarge, func(q *question) { q.l[1].Text = words(api.MaxRunWords+1, "a") }},
		{api.ErrLarge, func(q *question) { q.l[1].Text = words(api.MaxRunWords, "a") }},
		{api.ErrTwice, func(q *question) { q.l[2].Id = "c" }},
		{api.ErrForm, func(q *question) { q.l[2].Text = "a\n" }},
		{api.ErrArg, func(q *question) { q.least = 101 }},
		{api.ErrArg, func(q *question) { q.least = math.MinInt }},
		{api.ErrArg, func(q *question) { q.least = 100 }},
		{api.ErrArg, func(q *question) { q.percent = 101 }},
		{api.ErrArg, func(q *question) { q.percent = -1 }},
		{api.ErrArg, func(q *question) { q.percent = math.MaxInt }},
		{api.ErrArg, func(q *question) { q.least, q.percent = 1, 100 }},
	})
	for _, s := range badKeys {
		l, e := submit.Alike([]api.Draft{{Id: s}}, 1, 1)
		is(t, all(s, l, e), all(s, []api.Twins{}, api.ErrName))
	}
	for _, s := range badTexts {
		l, e := submit.Alike([]api.Draft{{Id: "a", Text: s}}, 1, 1)
		is(t, all(s, l, e), all(s, []api.Twins{}, api.ErrForm))
	}
}
