package submit_test

import (
	"fmt"
	"math"
	"strings"
	"testing"

	"rebuttal/api"
	"rebuttal/submit"
)

// example is the call of the chapter's example, but that it opens later.
func example() api.Call {
	return api.Call{Opens: 10, Abstract: 100, Full: 200, Reasons: []api.Reason{{Key: "ill", More: 50}, {Key: "lost", More: api.End}}}
}

func reasons(n int) []api.Reason {
	var l []api.Reason
	for _, k := range keys(n) {
		l = append(l, api.Reason{Key: k, More: 1})
	}
	return l
}

// P2.2: what is right.
func TestCheckCall(t *testing.T) {
	for _, c := range []api.Call{
		example(),
		{Opens: 0, Abstract: 1, Full: 1},
		{Opens: api.End - 2, Abstract: api.End - 1, Full: api.End - 1},
		{Opens: 0, Abstract: 1, Full: 1, Reasons: reasons(api.MaxReasons)},
		{Opens: 0, Abstract: 1, Full: 1, Reasons: []api.Reason{{Key: "a", More: 1}, {Key: "b", More: api.End}}},
	} {
		is(t, submit.CheckCall(c), api.OK)
	}
}

// P2.2: the errors, each where the one before is put right.
func TestCheckCallErrors(t *testing.T) {
	c := api.Call{Opens: -1, Abstract: 5, Full: math.MinInt, Reasons: append(reasons(api.MaxReasons), api.Reason{})}
	climb(t, c, submit.CheckCall, []rung[api.Call]{
		{api.ErrArg, func(c *api.Call) { c.Opens = api.End }},
		{api.ErrArg, func(c *api.Call) { c.Opens = math.MinInt }},
		{api.ErrArg, func(c *api.Call) { c.Opens = 5 }},
		{api.ErrOrder, func(c *api.Call) { c.Abstract = 6 }},
		{api.ErrOrder, func(c *api.Call) { c.Full = 5 }},
		{api.ErrOrder, func(c *api.Call) { c.Abstract, c.Full = api.End, api.End-1 }},
		{api.ErrOrder, func(c *api.Call) { c.Full = api.End }},
		{api.ErrArg, func(c *api.Call) { c.Full = math.MaxInt }},
		{api.ErrArg, func(c *api.Call) { c.Abstract, c.Full = 6, api.End-1 }},
		{api.ErrLarge, func(c *api.Call) { c.Reasons = []api.Reason{{Key: "b", More: 1}, {Key: "A"}} }},
		{api.ErrName, func(c *api.Call) { c.Reasons[1].Key = "a" }},
		{api.ErrOrder, func(c *api.Call) { c.Reasons[1].Key = "b" }},
		{api.ErrOrder, func(c *api.Call) { c.Reasons[1].Key = "c" }},
		{api.ErrArg, func(c *api.Call) { c.Reasons[1].More = -1 }},
		{api.ErrArg, func(c *api.Call) { c.Reasons[1].More = api.End + 1 }},
		{api.ErrArg, func(c *api.Call) { c.Reasons[1].More = math.MaxInt }},
		{api.ErrArg, func(c *api.Call) { c.Reasons[1].More = api.End }},
	})
	for _, s := range badKeys {
		is(t, submit.CheckCall(api.Call{Abstract: 1, Full: 1, Reasons: []api.Reason{{Key: s, More: 1}}}), api.ErrName)
	}
}

// P2.2: CheckArrival.
func TestCheckArrival(t *testing.T) {
	for _, a := range []api.Arrival{
		{Paper: "p", At: 0, Kind: api.ArriveAbstract},
		{Paper: "p", At: api.End - 1, Kind: api.ArriveFull, Reason: "ill", Text: "Größe\n\n x\n"},
		{Paper: "p", At: 7, Kind: api.ArriveFull, Text: strings.Repeat("a", api.MaxBody-1) + "\n"},
		{Paper: "p", At: 7, Kind: api.ArriveBack},
	} {
		is(t, submit.CheckArrival(a), api.OK)
	}
	a := api.Arrival{Paper: "P", At: -1, Kind: 0, Reason: "R", Text: strings.Repeat("a", api.MaxBody+1)}
	climb(t, a, submit.CheckArrival, []rung[api.Arrival]{
		{api.ErrName, func(a *api.Arrival) { a.Paper = "" }},
		{api.ErrName, func(a *api.Arrival) { a.Paper = "p" }},
		{api.ErrArg, func(a *api.Arrival) { a.At = api.End }},
		{api.ErrArg, func(a *api.Arrival) { a.At = math.MinInt }},
		{api.ErrArg, func(a *api.Arrival) { a.At = 0 }},
		{api.ErrKind, func(a *api.Arrival) { a.Kind = 4 }},
		{api.ErrKind, func(a *api.Arrival) { a.Kind = math.MaxInt }},
		{api.ErrKind, func(a *api.Arrival) { a.Kind = math.MinInt }},
		{api.ErrKind, func(a *api.Arrival) { a.Kind = api.ArriveBack }},
		{api.ErrName, func(a *api.Arrival) { a.Reason = "r" }},
		{api.ErrLarge, func(a *api.Arrival) { a.Text = "a" }},
		{api.ErrForm, func(a *api.Arrival) { a.Text = "a\n" }},
		{api.ErrForm, func(a *api.Arrival) { a.Reason = "" }},
		{api.ErrForm, func(a *api.Arrival) { a.Reason, a.Text = "r", "" }},
		{api.ErrForm, func(a *api.Arrival) { a.Reason = "" }},
	})
	for _, s := range badTexts {
		a := api.Arrival{Paper: "p", Kind: api.ArriveFull, Text: s}
		is(t, all(s, submit.CheckArrival(a)), all(s, api.ErrForm))
	}
	for _, s := range badKeys[1:] {
		a := api.Arrival{Paper: "p", Kind: api.ArriveFull, Reason: s}
		is(t, all(s, submit.CheckArrival(a)), all(s, api.ErrName))
	}
}

// P2.2: Deadline.
func TestDeadline(t *testing.T) {
	for _, x := range []struct {
		kind   int
		reason string
		want   int
		e      api.Errno
	}{
		{api.ArriveAbstract, "", 100, api.OK},
		{api.ArriveAbstract, "ill", 150, api.OK},
		{api.ArriveAbstract, "lost", api.End, api.OK},
		{api.ArriveFull, "", 200, api.OK},
		{api.ArriveFull, "ill", 250, api.OK},
		{api.ArriveFull, "lost", api.End, api.OK},
		{api.ArriveBack, "", api.End, api.OK},
		{api.ArriveBack, "ill", api.End, api.OK},
		{api.ArriveAbstract, "sad", 0, api.ErrNone},
		{api.ArriveFull, "i", 0, api.ErrNone},
		{api.ArriveBack, "sad", 0, api.ErrNone},
		{api.ArriveBack, "ILL", 0, api.ErrNone},
		{0, "", 0, api.ErrKind},
		{4, "sad", 0, api.ErrKind},
		{math.MinInt, "ill", 0, api.ErrKind},
	} {
		n, e := submit.Deadline(example(), x.kind, x.reason)
		is(t, all(x, n, e), all(x, x.want, x.e))
	}
	c := api.Call{Abstract: api.End - 11, Full: api.End - 1, Reasons: []api.Reason{{Key: "a", More: 10}, {Key: "b", More: 11}, {Key: "c", More: 12}}}
	for reason, want := range map[string]int{"a": api.End - 1, "b": api.End, "c": api.End} {
		n, e := submit.Deadline(c, api.ArriveAbstract, reason)
		is(t, all(reason, n, e), all(reason, want, api.OK))
	}
	n, e := submit.Deadline(api.Call{Opens: -1}, 0, "sad")
	is(t, all(n, e), all(0, api.ErrArg))
}

// P2.2: Counts.
func TestCounts(t *testing.T) {
	for _, x := range []struct {
		at, kind int
		reason   string
		want     int
	}{
		{9, api.ArriveAbstract, "", api.CountsEarly},
		{10, api.ArriveAbstract, "", api.CountsYes},
		{99, api.ArriveAbstract, "", api.CountsYes},
		{100, api.ArriveAbstract, "", api.CountsLate},
		{149, api.ArriveAbstract, "ill", api.CountsYes},
		{150, api.ArriveAbstract, "ill", api.CountsLate},
		{9, api.ArriveAbstract, "ill", api.CountsEarly},
		{api.End - 1, api.ArriveAbstract, "lost", api.CountsYes},
		{9, api.ArriveFull, "", api.CountsEarly},
		{199, api.ArriveFull, "", api.CountsYes},
		{200, api.ArriveFull, "", api.CountsLate},
		{249, api.ArriveFull, "ill", api.CountsYes},
		{250, api.ArriveFull, "ill", api.CountsLate},
		{50, api.ArriveFull, "sad", api.CountsReason},
		{0, api.ArriveFull, "sad", api.CountsReason},
		{900, api.ArriveAbstract, "sad", api.CountsReason},
		{9, api.ArriveBack, "", api.CountsEarly},
		{10, api.ArriveBack, "", api.CountsYes},
		{api.End - 1, api.ArriveBack, "", api.CountsYes},
	} {
		n, e := submit.Counts(example(), api.Arrival{Paper: "p", At: x.at, Kind: x.kind, Reason: x.reason})
		is(t, all(x, n, e), all(x, x.want, api.OK))
	}
	n, e := submit.Counts(api.Call{Opens: -1}, api.Arrival{})
	is(t, all(n, e), all(0, api.ErrArg))
	n, e = submit.Counts(example(), api.Arrival{})
	is(t, all(n, e), all(0, api.ErrName))
	n, e = submit.Counts(example(), api.Arrival{Paper: "p", Kind: api.ArriveBack, Reason: "sad"})
	is(t, all(n, e), all(0, api.ErrForm))
}

// P2.2: Counts as Deadline says it, at each moment.
func TestCountsByDeadline(t *testing.T) {
	c := example()
	for kind := api.ArriveAbstract; kind < api.ArriveBack; kind++ {
		for _, reason := range []string{"", "ill", "lost"} {
			before, e := submit.Deadline(c, kind, reason)
			is(t, e, api.OK)
			for at := range 300 {
				want := api.CountsYes
				if at < c.Opens {
					want = api.CountsEarly
				} else if at >= before {
					want = api.CountsLate
				}
				n, e := submit.Counts(c, api.Arrival{Paper: "p", At: at, Kind: kind, Reason: reason})
				if n != want || e != api.OK {
					t.Error(fmt.Sprint(kind, reason, at), n, e)
				}
			}
		}
	}
}
