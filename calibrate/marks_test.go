package calibrate_test

import (
	"math"
	"strings"
	"testing"

	"rebuttal/api"
	"rebuttal/calibrate"
)

// P6.1: marks that are right.
func TestCheckMarks(t *testing.T) {
	k := strings.Repeat("k", api.MaxName)
	for _, l := range [][]api.Mark{
		nil,
		example(),
		marks("p p 0", "q p 10"),
		marks(k+" "+k+" 1", "z a 0"),
		grid(api.MaxMarks/api.MaxPerPaper, api.MaxPerPaper),
		grid(api.MaxMarks, 1),
	} {
		is(t, calibrate.CheckMarks(l), api.OK)
	}
}

// P6.1: the errors of marks, in order.
func TestCheckMarksErrors(t *testing.T) {
	first := func(change func(*api.Mark)) func(*[]api.Mark) {
		return func(l *[]api.Mark) { change(&(*l)[0]) }
	}
	second := func(change func(*api.Mark)) func(*[]api.Mark) {
		return func(l *[]api.Mark) { change(&(*l)[1]) }
	}
	l := append(grid(api.MaxMarks, 1), mark("", "", -1))
	climb(t, l, calibrate.CheckMarks, []rung[[]api.Mark]{
		{api.ErrLarge, func(l *[]api.Mark) { *l = []api.Mark{mark("P", "b", -1), mark("Q", "a", 11)} }},
		{api.ErrName, first(func(m *api.Mark) { m.Paper, m.Person = "p", "" })},
		{api.ErrName, first(func(m *api.Mark) { m.Person = "b" })},
		{api.ErrArg, first(func(m *api.Mark) { m.Score = api.MaxScore + 1 })},
		{api.ErrArg, first(func(m *api.Mark) { m.Score = math.MinInt })},
		{api.ErrArg, first(func(m *api.Mark) { m.Score = api.MaxScore })},
		{api.ErrName, second(func(m *api.Mark) { m.Paper, m.Person = "a", "A" })},
		{api.ErrName, second(func(m *api.Mark) { m.Person = "z" })},
		{api.ErrOrder, second(func(m *api.Mark) { m.Paper, m.Person = "p", "a" })},
		{api.ErrOrder, second(func(m *api.Mark) { m.Person = "b" })},
		{api.ErrOrder, second(func(m *api.Mark) { m.Person = "c" })},
		{api.ErrArg, second(func(m *api.Mark) { m.Score = 0 })},
	})
	for _, key := range badKeys {
		is(t, calibrate.CheckMarks([]api.Mark{mark(key, "a", 0)}), api.ErrName)
		is(t, calibrate.CheckMarks([]api.Mark{mark("p", key, 0)}), api.ErrName)
	}
}

// P6.1: too many marks of one paper, and what comes before that.
func TestTooManyOfOnePaper(t *testing.T) {
	full := func(paper string) []api.Mark {
		var l []api.Mark
		for _, person := range keys(api.MaxPerPaper) {
			l = append(l, mark(paper, person, 3))
		}
		return l
	}
	l := append(full("a"), full("b")...)
	is(t, calibrate.CheckMarks(l), api.OK)
	for want, m := range map[api.Errno]api.Mark{
		api.ErrLarge: mark("b", "z", 3),
		api.ErrArg:   mark("b", "z", 11),
		api.ErrOrder: mark("b", "k0000", 11),
		api.ErrName:  mark("b", "", 11),
	} {
		is(t, calibrate.CheckMarks(append(l, m, mark("", "", 0))), want)
	}
	is(t, calibrate.CheckMarks(append(l, mark("c", "z", 3))), api.OK)
}

// P6.1: all functions with marks return the error of these first.
func TestErrorsOfMarks(t *testing.T) {
	for want, l := range map[api.Errno][]api.Mark{
		api.ErrLarge: grid(1, api.MaxPerPaper+1),
		api.ErrName:  marks("P a 1"),
		api.ErrOrder: marks("p b 1", "p a 1"),
		api.ErrArg:   marks("p b 11"),
	} {
		wrong := inputs{l: l, a: "a", b: "a", order: []string{"?"}}
		for name, r := range wrong.ofMarks() {
			if r[len(r)-1] != want {
				t.Error(name, want, r)
			}
		}
	}
}

// P6.1: PapersOf and PeopleOf.
func TestKeysOf(t *testing.T) {
	l := marks("p z 1", "q a 1", "q p 1", "r a 1", "z q 0")
	is(t, pack(calibrate.PapersOf(l)), all([]string{"p", "q", "r", "z"}, api.OK))
	is(t, pack(calibrate.PeopleOf(l)), all([]string{"a", "p", "q", "z"}, api.OK))
	is(t, pack(calibrate.PapersOf(nil)), all([]string{}, api.OK))
	is(t, pack(calibrate.PeopleOf(nil)), all([]string{}, api.OK))
	d := dice(3)
	for range 200 {
		l := d.marks(t, 8, 8)
		is(t, pack(calibrate.PapersOf(l)), all(papersOf(l), api.OK))
		is(t, pack(calibrate.PeopleOf(l)), all(peopleOf(l), api.OK))
	}
}

// P6.3: Shift.
func TestShift(t *testing.T) {
	is(t, pack(calibrate.Shift(example(), "a", 2)), all(marks("p a 10", "p b 5", "q a 8", "q b 3"), api.OK))
	is(t, pack(calibrate.Shift(example(), "b", -3)), all(marks("p a 8", "p b 2", "q a 6", "q b 0"), api.OK))
	is(t, pack(calibrate.Shift(example(), "b", 0)), all(example(), api.OK))
	// papers with the key of a person stay as they are
	is(t, pack(calibrate.Shift(marks("a b 1", "b a 1"), "a", 4)), all(marks("a b 1", "b a 5"), api.OK))
}

// P6.3: the errors of Shift.
func TestShiftErrors(t *testing.T) {
	for _, person := range []string{"c", "p", "", "A"} {
		is(t, pack(calibrate.Shift(example(), person, 99)), all([]api.Mark{}, api.ErrNone))
	}
	for _, by := range []int{3, 11, math.MaxInt, math.MaxInt - 7, -7, -11, math.MinInt, math.MinInt + 8} {
		is(t, pack(calibrate.Shift(example(), "a", by)), all([]api.Mark{}, api.ErrArg))
	}
	is(t, pack(calibrate.Shift(nil, "a", 0)), all([]api.Mark{}, api.ErrNone))
}
