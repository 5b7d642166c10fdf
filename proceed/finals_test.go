package proceed_test

import (
	"fmt"
	"math"
	"slices"
	"strings"
	"testing"

	"rebuttal/api"
	"rebuttal/proceed"
)

// P9.1: finals, their errors in order.
func TestCheckFinals(t *testing.T) {
	for _, l := range [][]api.Final{nil, example(), many(api.MaxPapers), finals("p 100 T a=A b=A")} {
		is(t, proceed.CheckFinals(l), api.OK)
	}
	wrong := append(many(api.MaxPapers-1), api.Final{Paper: "?"}, api.Final{})
	i := api.MaxPapers - 1
	climb(t, wrong, proceed.CheckFinals, []rung[[]api.Final]{
		{api.ErrLarge, func(l *[]api.Final) { *l = (*l)[:api.MaxPapers] }},
		{api.ErrName, at(i, func(f *api.Final) { f.Paper = "k0000" })},
		{api.ErrOrder, at(i, func(f *api.Final) { f.Paper = "k0398" })},
		{api.ErrOrder, at(i, func(f *api.Final) { f.Paper = "z" })},
		{api.ErrForm, at(i, func(f *api.Final) { f.Title = "T" })},
		{api.ErrArg, at(i, func(f *api.Final) { f.Pages = 101 })},
		{api.ErrArg, at(i, func(f *api.Final) { f.Pages = 100 })},
		{api.ErrForm, at(i, func(f *api.Final) { f.Credits = make([]api.Credit, api.MaxAuthors+1) })},
		{api.ErrLarge, at(i, func(f *api.Final) { f.Credits = make([]api.Credit, 3) })},
		{api.ErrName, at(i, func(f *api.Final) { f.Credits = credits("a=", "a=", "a=") })},
		{api.ErrForm, at(i, func(f *api.Final) { f.Credits[0].Name = "A" })},
		{api.ErrTwice, at(i, func(f *api.Final) { f.Credits[1].Key = "b" })},
		{api.ErrForm, at(i, func(f *api.Final) { f.Credits[1].Name = "A" })},
		{api.ErrTwice, at(i, func(f *api.Final) { f.Credits[2].Key = "C" })},
		{api.ErrName, at(i, func(f *api.Final) { f.Credits[2].Key = "c" })},
		{api.ErrForm, at(i, func(f *api.Final) { f.Credits[2].Name = "A" })},
	})
	// An earlier final comes first.
	for i, change := range []func(*api.Final){
		func(f *api.Final) { f.Title = "" },
		func(f *api.Final) { f.Credits = nil },
		func(f *api.Final) { f.Credits[0].Name = "" },
	} {
		l := append(example(), api.Final{})
		change(&l[i])
		is(t, proceed.CheckFinals(l), api.ErrForm)
	}
}

// P9.1: what a final can be made of.
func TestFinalBounds(t *testing.T) {
	final := func(change func(*api.Final)) api.Errno {
		l := example()
		change(&l[3])
		return proceed.CheckFinals(l)
	}
	for _, key := range badKeys {
		is(t, final(func(f *api.Final) { f.Paper = key }), api.ErrName)
		is(t, final(func(f *api.Final) { f.Credits[0].Key = key }), api.ErrName)
	}
	for _, s := range badLabels {
		is(t, final(func(f *api.Final) { f.Title = s }), api.ErrForm)
		is(t, final(func(f *api.Final) { f.Credits[0].Name = s }), api.ErrForm)
	}
	for n, want := range map[int]api.Errno{1: api.OK, 100: api.OK, 0: api.ErrArg, 101: api.ErrArg, -1: api.ErrArg, math.MinInt: api.ErrArg, math.MaxInt: api.ErrArg} {
		is(t, final(func(f *api.Final) { f.Pages = n }), want)
	}
	is(t, final(func(f *api.Final) { f.Title = strings.Repeat("t", api.MaxTitle) }), api.OK)
	is(t, final(func(f *api.Final) { f.Title = strings.Repeat("t", api.MaxTitle+1) }), api.ErrForm)
	is(t, final(func(f *api.Final) { f.Title = strings.Repeat("ä", api.MaxTitle/2) }), api.OK)
	is(t, final(func(f *api.Final) { f.Credits[0].Name = strings.Repeat("n", api.MaxNaming) }), api.OK)
	is(t, final(func(f *api.Final) { f.Credits[0].Name = strings.Repeat("n", api.MaxNaming+1) }), api.ErrForm)
	var most []api.Credit
	for _, key := range keys(api.MaxAuthors) {
		most = append(most, api.Credit{Key: key, Name: "A"})
	}
	is(t, final(func(f *api.Final) { f.Credits = most }), api.OK)
	slices.Reverse(most)
	is(t, final(func(f *api.Final) { f.Credits = most }), api.OK)
	is(t, final(func(f *api.Final) { f.Credits = append(most, api.Credit{Key: "z", Name: "Z"}) }), api.ErrLarge)
}

// P9.1: papers that are taken, and have no final.
func TestMissing(t *testing.T) {
	for _, c := range []struct {
		d    []api.Decision
		want []string
	}{
		{nil, nil},
		{decisions("p yes", "q no", "s yes"), nil},
		{decisions("z yes", "p yes", "a yes", "b no", "m yes"), []string{"a", "m", "z"}},
		{decisions("a no"), nil},
		{[]api.Decision{{Paper: "x", Yes: true, Rank: -7}}, []string{"x"}},
	} {
		is(t, pack(proceed.Missing(example(), c.d)), all(c.want, api.OK))
	}
	is(t, pack(proceed.Missing(nil, decisions("p yes"))), all([]string{"p"}, api.OK))
	for _, key := range badKeys {
		is(t, pack(proceed.Missing(example(), []api.Decision{{Paper: "p"}, {Paper: key}})), all([]string{}, api.ErrName))
	}
	for want, lines := range map[api.Errno][]string{
		api.ErrTwice: {"x yes", "p no", "x no", "? no"},
		api.ErrName:  {"x yes", "? no", "x no"},
	} {
		is(t, pack(proceed.Missing(example(), decisions(lines...))), all([]string{}, want))
	}
	is(t, pack(proceed.Missing(finals("p 0 T a=A"), decisions("? no"))), all([]string{}, api.ErrArg))
	// There can be any number of decisions.
	var d []api.Decision
	for i := range 200_000 {
		d = append(d, api.Decision{Paper: fmt.Sprintf("p%d", i), Yes: i == 7 || i == 77})
	}
	is(t, pack(proceed.Missing(example(), d)), all([]string{"p7", "p77"}, api.OK))
	d[199_999].Paper = "p0"
	is(t, pack(proceed.Missing(example(), d)), all([]string{}, api.ErrTwice))
}

// P9.1: Missing as the document has it.
func TestMissingPlainly(t *testing.T) {
	d := dice(3)
	for range 500 {
		l := d.finals(t)
		var some []api.Decision
		var want []string
		for _, paper := range d.some(somePapers, 2) {
			yes := d.below(2) == 0
			some = append(some, api.Decision{Paper: paper, Yes: yes})
			if _, there := plainFinal(l, paper); yes && !there {
				want = append(want, paper)
			}
		}
		is(t, pack(proceed.Missing(l, shuffled(&d, some))), all(want, api.OK))
	}
}
