package proceed_test

import (
	"math"
	"slices"
	"strings"
	"testing"

	"rebuttal/api"
	"rebuttal/proceed"
)

// P9.4: errata, their errors in order.
func TestCheckErrata(t *testing.T) {
	right := errata("p - A B", "p - A B", "z ann A B")
	is(t, proceed.CheckErrata(nil), api.OK)
	is(t, proceed.CheckErrata(right), api.OK)
	is(t, proceed.CheckErrata(slices.Repeat(right[:1], api.MaxErrata)), api.OK)
	climb(t, slices.Repeat([]api.Erratum{{Key: "?"}}, api.MaxErrata+1), proceed.CheckErrata, []rung[[]api.Erratum]{
		{api.ErrLarge, func(l *[]api.Erratum) { *l = slices.Clone((*l)[:2]) }},
		{api.ErrName, at(0, func(x *api.Erratum) { x.Paper = "p" })},
		{api.ErrKind, at(0, func(x *api.Erratum) { x.Field = api.FieldTitle })},
		{api.ErrForm, at(0, func(x *api.Erratum) { x.Key = "ann" })},
		{api.ErrForm, at(0, func(x *api.Erratum) { x.Key = "" })},
		{api.ErrForm, at(0, func(x *api.Erratum) { x.Old = "A" })},
		{api.ErrForm, at(0, func(x *api.Erratum) { x.New = "A" })},
		{api.ErrLoop, at(0, func(x *api.Erratum) { x.New = "a" })},
		{api.ErrName, at(1, func(x *api.Erratum) { x.Paper = "p" })},
		{api.ErrKind, at(1, func(x *api.Erratum) { x.Field = api.FieldName })},
		{api.ErrName, at(1, func(x *api.Erratum) { x.Key = "ann" })},
		{api.ErrForm, at(1, func(x *api.Erratum) { x.New = "A" })},
		{api.ErrForm, at(1, func(x *api.Erratum) { x.Old = "A" })},
		{api.ErrLoop, at(1, func(x *api.Erratum) { x.Old = "B" })},
	})
}

// P9.4: what an erratum can be made of.
func TestErratumBounds(t *testing.T) {
	erratum := func(i int, change func(*api.Erratum)) api.Errno {
		l := errata("p - A B", "p ann A B")
		change(&l[i])
		return proceed.CheckErrata(l)
	}
	for _, key := range badKeys {
		is(t, erratum(0, func(x *api.Erratum) { x.Paper = key }), api.ErrName)
		is(t, erratum(1, func(x *api.Erratum) { x.Paper = key }), api.ErrName)
		is(t, erratum(1, func(x *api.Erratum) { x.Key = key }), api.ErrName)
		if key != "" {
			is(t, erratum(0, func(x *api.Erratum) { x.Key = key }), api.ErrForm)
		}
	}
	for _, field := range []int{0, 3, -1, math.MinInt, math.MaxInt} {
		is(t, erratum(0, func(x *api.Erratum) { x.Field = field }), api.ErrKind)
		is(t, erratum(1, func(x *api.Erratum) { x.Field = field }), api.ErrKind)
	}
	for i, most := range []int{api.MaxTitle, api.MaxNaming} {
		long := strings.Repeat("x", most)
		is(t, erratum(i, func(x *api.Erratum) { x.Old = long }), api.OK)
		is(t, erratum(i, func(x *api.Erratum) { x.New = long }), api.OK)
		for _, s := range append([]string{long + "x"}, badLabels...) {
			is(t, erratum(i, func(x *api.Erratum) { x.Old = s }), api.ErrForm)
			is(t, erratum(i, func(x *api.Erratum) { x.New = s }), api.ErrForm)
			is(t, erratum(i, func(x *api.Erratum) { x.Old, x.New = s, s }), api.ErrForm)
		}
		is(t, erratum(i, func(x *api.Erratum) { x.New = "A" }), api.ErrLoop)
	}
}

// P9.4: errata are applied one after the other.
func TestApply(t *testing.T) {
	for _, c := range []struct {
		lines []string
		want  []api.Final
		many  int
		e     api.Errno
	}{
		{nil, example(), 0, api.OK},
		{[]string{"q - On_roots On_old_roots", "q ann Ana_de_la_Cruz Ana_Cruz"}, finals("q 2 On_old_roots ann=Ana_Cruz"), 2, api.OK},
		{[]string{"q - On_leaves On_roots"}, finals("q 2 On_roots ann=Ana_de_la_Cruz"), 0, api.OK},
		{[]string{"q - On_roots A", "q - On_roots A"}, finals("q 2 A ann=Ana_de_la_Cruz"), 1, api.OK},
		{[]string{"q - On_roots A", "q - A B", "q - B On_roots"}, finals("q 2 On_roots ann=Ana_de_la_Cruz"), 3, api.OK},
		{[]string{"q - On_roots A", "q - A On_roots", "q - On_roots A"}, finals("q 2 A ann=Ana_de_la_Cruz"), 3, api.OK},
		{[]string{"p bob Jean-Luc_Ray Bo"}, finals("p 3 On_trees ann=Ana_de_la_Cruz bob=Bo"), 1, api.OK},
		{[]string{"q - On_roots A", "q - B C"}, nil, 0, api.ErrConflict},
		{[]string{"q - on_roots A"}, nil, 0, api.ErrConflict},
		{[]string{"q - A B", "x - A B"}, nil, 0, api.ErrConflict},
		{[]string{"x - A B", "q - A B"}, nil, 0, api.ErrNone},
		{[]string{"q bob A B", "q - A B"}, nil, 0, api.ErrNone},
		{[]string{"q ann A B", "q bob A B"}, nil, 0, api.ErrConflict},
		{[]string{"q - On_roots A", "q - A B", "q - On_roots A"}, nil, 0, api.ErrConflict},
		{[]string{"x - A A"}, nil, 0, api.ErrLoop},
		{[]string{"x - A B", "x - A A"}, nil, 0, api.ErrLoop},
	} {
		want := c.want
		if len(want) == 1 {
			want = example()
			i := slices.IndexFunc(want, func(f api.Final) bool { return f.Paper == c.want[0].Paper })
			want[i] = c.want[0]
		}
		is(t, pack3(proceed.Apply(example(), errata(c.lines...))), all(want, c.many, c.e))
	}
	is(t, pack3(proceed.Apply(finals("p 0 T a=A"), errata("p - A A"))), all([]api.Final{}, 0, api.ErrArg))
	is(t, pack3(proceed.Apply(nil, nil)), all([]api.Final{}, 0, api.OK))
	is(t, pack3(proceed.Apply(nil, errata("p - A B"))), all([]api.Final{}, 0, api.ErrNone))
}

// plainApply changes a copy erratum by erratum.
func plainApply(l []api.Final, e []api.Erratum) ([]api.Final, int, api.Errno) {
	var done []api.Final
	for _, f := range l {
		f.Credits = slices.Clone(f.Credits)
		done = append(done, f)
	}
	many := 0
	for _, x := range e {
		var field *string
		for i := range done {
			if done[i].Paper != x.Paper {
				continue
			}
			if x.Field == api.FieldTitle {
				field = &done[i].Title
			}
			for j, c := range done[i].Credits {
				if x.Field == api.FieldName && c.Key == x.Key {
					field = &done[i].Credits[j].Name
				}
			}
		}
		if field == nil {
			return nil, 0, api.ErrNone
		}
		if *field != x.Old && *field != x.New {
			return nil, 0, api.ErrConflict
		}
		if *field == x.Old {
			*field = x.New
			many++
		}
	}
	return done, many, api.OK
}

// errata are some of fields that there mostly are; a field can be there several times.
func (d *dice) errata(l []api.Final) []api.Erratum {
	var e []api.Erratum
	for _, f := range l {
		for range d.below(3) {
			x := api.Erratum{Paper: f.Paper, Field: api.FieldTitle, Old: f.Title, New: d.pick(someTitles)}
			if c := f.Credits[d.below(len(f.Credits))]; d.below(2) == 0 {
				x.Field, x.Key, x.Old, x.New = api.FieldName, c.Key, c.Name, d.pick([]string{"Ann", "Bo"})
			}
			if d.below(12) == 0 {
				x.Old = "T"
			}
			if d.below(25) == 0 {
				x.Paper = d.pick(somePapers)
			}
			if x.Old != x.New {
				e = append(e, x)
			}
		}
	}
	return shuffled(d, e)
}

// P9.4: errata as the document has them. If no two are of one field, the second time changes nothing.
func TestApplyPlainly(t *testing.T) {
	d := dice(19)
	seen := map[api.Errno]int{}
	twice := 0
	for range 3000 {
		l := d.finals(t)
		e := d.errata(l)
		want, many, errno := plainApply(l, e)
		seen[errno]++
		is(t, pack3(proceed.Apply(l, e)), all(want, many, errno))
		fields := map[[2]string]bool{}
		for _, x := range e {
			fields[[2]string{x.Paper, x.Key}] = true
		}
		if errno == api.OK {
			is(t, proceed.CheckFinals(want), api.OK)
		}
		if errno == api.OK && len(fields) == len(e) {
			twice++
			is(t, pack3(proceed.Apply(want, e)), all(want, 0, api.OK))
		}
	}
	is(t, all(len(seen), seen[api.OK] > 500, seen[api.ErrNone] > 30, seen[api.ErrConflict] > 100, twice > 300), all(3, true, true, true, true))
}
