package submit_test

import (
	"math"
	"slices"
	"strings"
	"testing"

	"rebuttal/api"
	"rebuttal/submit"
)

func arrival(at, kind int, text string) api.Arrival {
	return api.Arrival{Paper: "p", At: at, Kind: kind, Text: text}
}

// P2.3: State, case by case.
func TestState(t *testing.T) {
	l := []api.Arrival{
		arrival(300, api.ArriveBack, ""),
		arrival(20, api.ArriveFull, "early\n"),
		arrival(30, api.ArriveAbstract, "a\n"),
		arrival(30, api.ArriveAbstract, "b\n"),
		arrival(5, api.ArriveAbstract, "before it opens\n"),
		arrival(40, api.ArriveBack, ""),
		{Paper: "p", At: 120, Kind: api.ArriveAbstract, Reason: "ill", Text: "c\n"},
		{Paper: "p", At: 120, Kind: api.ArriveAbstract, Text: "late\n"},
		{Paper: "q", At: 50, Kind: api.ArriveAbstract, Text: "other\n"},
		arrival(150, api.ArriveFull, ""),
	}
	for _, x := range []struct {
		at   int
		want api.Entry
	}{
		{0, api.Entry{Paper: "p", Status: api.StatusNone}},
		{29, api.Entry{Paper: "p", Status: api.StatusNone}},
		{30, api.Entry{Paper: "p", Status: api.StatusFull, Abstract: "b\n", Full: "early\n", Since: 30}},
		{39, api.Entry{Paper: "p", Status: api.StatusFull, Abstract: "b\n", Full: "early\n", Since: 30}},
		{40, api.Entry{Paper: "p", Status: api.StatusBack, Abstract: "b\n", Full: "early\n", Since: 40}},
		{119, api.Entry{Paper: "p", Status: api.StatusBack, Abstract: "b\n", Full: "early\n", Since: 40}},
		{120, api.Entry{Paper: "p", Status: api.StatusFull, Abstract: "c\n", Full: "early\n", Since: 120}},
		{150, api.Entry{Paper: "p", Status: api.StatusFull, Abstract: "c\n", Since: 150}},
		{api.End - 1, api.Entry{Paper: "p", Status: api.StatusBack, Abstract: "c\n", Since: 300}},
	} {
		s, e := submit.State(example(), l, "p", x.at)
		is(t, all(x.at, s, e), all(x.at, x.want, api.OK))
	}
	s, e := submit.State(example(), l, "z", 100)
	is(t, all(s, e), all(api.Entry{Paper: "z", Status: api.StatusNone}, api.OK))
	m, e := submit.Moments(example(), l, "p")
	is(t, all(m, e), all([]int{30, 40, 120, 150, 300}, api.OK))
	m, e = submit.Moments(example(), l, "z")
	is(t, all(m, e), all([]int{}, api.OK))
	es, e := submit.States(example(), l, 45)
	is(t, all(es, e), all([]api.Entry{{Paper: "p", Status: api.StatusBack, Abstract: "b\n", Full: "early\n", Since: 40}}, api.OK))
	es, e = submit.States(example(), nil, 45)
	is(t, all(es, e), all([]api.Entry{}, api.OK))
}

// P2.3: of what comes at one moment the order is by kind, then reason, then text.
func TestStateAtOneMoment(t *testing.T) {
	c := example()
	s, e := submit.State(c, []api.Arrival{
		{Paper: "p", At: 50, Kind: api.ArriveAbstract, Reason: "lost", Text: "a\n"},
		{Paper: "p", At: 50, Kind: api.ArriveAbstract, Reason: "ill", Text: "z\n"},
		{Paper: "p", At: 50, Kind: api.ArriveFull, Text: "b\n"},
		{Paper: "p", At: 50, Kind: api.ArriveFull, Text: "ba\n"},
		{Paper: "p", At: 50, Kind: api.ArriveFull, Text: ""},
	}, "p", 50)
	is(t, all(s, e), all(api.Entry{Paper: "p", Status: api.StatusFull, Abstract: "a\n", Full: "ba\n", Since: 50}, api.OK))
	s, e = submit.State(c, []api.Arrival{arrival(50, api.ArriveBack, ""), arrival(50, api.ArriveFull, "b\n"), arrival(50, api.ArriveAbstract, "a\n")}, "p", 50)
	is(t, all(s, e), all(api.Entry{Paper: "p", Status: api.StatusBack, Abstract: "a\n", Full: "b\n", Since: 50}, api.OK))
}

// P2.3: a full paper or a withdrawal without an abstract is nothing; what comes at 0 is a change.
func TestStateWithoutAbstract(t *testing.T) {
	l := []api.Arrival{arrival(20, api.ArriveFull, "f\n"), arrival(30, api.ArriveBack, "")}
	s, e := submit.State(example(), l, "p", 99)
	is(t, all(s, e), all(api.Entry{Paper: "p", Status: api.StatusNone}, api.OK))
	m, e := submit.Moments(example(), l, "p")
	is(t, all(m, e), all([]int{}, api.OK))
	l = append(l, arrival(25, api.ArriveAbstract, "a\n"))
	m, e = submit.Moments(example(), l, "p")
	is(t, all(m, e), all([]int{25, 30}, api.OK))
	c := api.Call{Abstract: 1, Full: 1}
	l = []api.Arrival{arrival(0, api.ArriveAbstract, ""), arrival(1, api.ArriveFull, "late\n")}
	s, e = submit.State(c, l, "p", 0)
	is(t, all(s, e), all(api.Entry{Paper: "p", Status: api.StatusAbstract}, api.OK))
	m, e = submit.Moments(c, l, "p")
	is(t, all(m, e), all([]int{0}, api.OK))
}

// question is all that State is asked.
type question struct {
	c  api.Call
	l  []api.Arrival
	id string
	at int
}

// P2.3: the errors of all three.
func TestStateErrors(t *testing.T) {
	q := question{api.Call{Opens: -1}, slices.Repeat([]api.Arrival{{}}, api.MaxArrivals+1), "P", -1}
	most := slices.Repeat([]api.Arrival{arrival(20, api.ArriveAbstract, "")}, api.MaxArrivals)
	common := []rung[question]{
		{api.ErrArg, func(q *question) { q.c = example() }},
		{api.ErrLarge, func(q *question) { q.l = []api.Arrival{arrival(0, api.ArriveFull, "x"), {}} }},
		{api.ErrForm, func(q *question) { q.l[0].Text = "x\n" }},
		{api.ErrName, func(q *question) { q.l = most }},
	}
	id := rung[question]{api.ErrName, func(q *question) { q.id = "q" }}
	at := []rung[question]{
		{api.ErrArg, func(q *question) { q.at = api.End }},
		{api.ErrArg, func(q *question) { q.at = math.MinInt }},
		{api.ErrArg, func(q *question) { q.at = 0 }},
	}
	climb(t, q, func(q question) api.Errno {
		s, e := submit.State(q.c, q.l, q.id, q.at)
		if e != api.OK {
			is(t, s, api.Entry{})
		}
		return e
	}, slices.Concat(common, []rung[question]{id}, at))
	climb(t, q, func(q question) api.Errno {
		l, e := submit.States(q.c, q.l, q.at)
		if e != api.OK {
			is(t, l, []api.Entry{})
		}
		return e
	}, slices.Concat(common, at))
	climb(t, q, func(q question) api.Errno {
		l, e := submit.Moments(q.c, q.l, q.id)
		if e != api.OK {
			is(t, l, []int{})
		}
		return e
	}, slices.Concat(common, []rung[question]{id}))
}

// narrow is a call within 130 minutes.
func narrow() api.Call {
	return api.Call{Opens: 10, Abstract: 30, Full: 50, Reasons: []api.Reason{{Key: "ill", More: 15}, {Key: "lost", More: 40}}}
}

// arrivals are some within 130 minutes.
func (d *dice) arrivals() []api.Arrival {
	l := []api.Arrival{}
	for range d.below(14) {
		a := api.Arrival{Paper: d.pick([]string{"p", "q", "r"}), At: 5 * d.below(22), Kind: 1 + d.below(3)}
		if a.Kind != api.ArriveBack {
			a.Reason = d.pick([]string{"", "", "ill", "lost", "sad"})
			a.Text = d.pick([]string{"", "a\n", "b\n"})
		}
		l = append(l, a)
	}
	return l
}

// plainState is State as the document says it.
func plainState(c api.Call, l []api.Arrival, id string, at int) api.Entry {
	none := api.Entry{Paper: id, Status: api.StatusNone}
	last := func(kinds ...int) (x api.Arrival, found bool) {
		for _, a := range l {
			n, _ := submit.Counts(c, a)
			if a.Paper == id && a.At <= at && n == api.CountsYes && slices.Contains(kinds, a.Kind) && (!found || before(x, a)) {
				x, found = a, true
			}
		}
		return x, found
	}
	abstract, found := last(api.ArriveAbstract)
	if !found {
		return none
	}
	full, whole := last(api.ArriveFull)
	any, _ := last(api.ArriveAbstract, api.ArriveFull, api.ArriveBack)
	entry := api.Entry{Paper: id, Status: api.StatusAbstract, Abstract: abstract.Text, Full: full.Text, Since: any.At}
	if any.Kind == api.ArriveBack {
		entry.Status = api.StatusBack
	} else if whole {
		entry.Status = api.StatusFull
	}
	return entry
}

func before(a, b api.Arrival) bool {
	if a.At != b.At {
		return a.At < b.At
	}
	if a.Kind != b.Kind {
		return a.Kind < b.Kind
	}
	if a.Reason != b.Reason {
		return a.Reason < b.Reason
	}
	return a.Text < b.Text
}

// P2.3: State, States and Moments as the document says them, minute by minute.
func TestStatePlainly(t *testing.T) {
	d := dice(3)
	c := narrow()
	for range 60 {
		l := d.arrivals()
		moments := map[string][]int{}
		for at := range 130 {
			want := []api.Entry{}
			for _, id := range []string{"p", "q", "r"} {
				s, e := submit.State(c, l, id, at)
				plain := plainState(c, l, id, at)
				is(t, all(s, e), all(plain, api.OK))
				if plain.Status != api.StatusNone {
					want = append(want, plain)
				}
				if plain != plainState(c, l, id, at-1) {
					moments[id] = append(moments[id], at)
				}
			}
			s, e := submit.States(c, l, at)
			is(t, all(s, e), all(want, api.OK))
		}
		for _, id := range []string{"p", "q", "r"} {
			m, e := submit.Moments(c, l, id)
			is(t, all(m, e), all(moments[id], api.OK))
		}
	}
}

// P2.3: neither the order of arrivals matters, nor how often each is in the list, nor what comes after all deadlines, but for withdrawals.
func TestStateOfAnyOrder(t *testing.T) {
	d := dice(5)
	c := narrow()
	for range 100 {
		l := d.arrivals()
		var mixed []api.Arrival
		for _, a := range l {
			mixed = append(mixed, slices.Repeat([]api.Arrival{a}, 1+d.below(3))...)
		}
		mixed = shuffled(&d, mixed)
		for _, kind := range []int{api.ArriveAbstract, api.ArriveFull} {
			mixed = append(mixed, api.Arrival{Paper: "p", At: 90 + d.below(9), Kind: kind, Reason: d.pick([]string{"", "ill", "lost"}), Text: "late\n"})
		}
		for at := 0; at < 130; at += 5 {
			want, _ := submit.States(c, l, at)
			got, e := submit.States(c, mixed, at)
			is(t, all(got, e), all(want, api.OK))
		}
		want, _ := submit.Moments(c, l, "p")
		got, e := submit.Moments(c, mixed, "p")
		is(t, all(got, e), all(want, api.OK))
	}
}

// P2.3: as many and as long arrivals as there can be.
func TestManyArrivals(t *testing.T) {
	body := strings.Repeat("a", api.MaxBody-1) + "\n"
	var l []api.Arrival
	want := []int{}
	for i := range api.MaxArrivals {
		l = append(l, arrival(100+i, api.ArriveAbstract, body))
		want = append(want, 100+i)
	}
	c := api.Call{Abstract: 5000, Full: 5000}
	m, e := submit.Moments(c, l, "p")
	is(t, all(m, e), all(want, api.OK))
	s, e := submit.States(c, l, 5000)
	is(t, all(len(s), s[0].Since, e), all(1, 99+api.MaxArrivals, api.OK))
}
