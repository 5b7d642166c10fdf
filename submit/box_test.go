package submit_test

import (
	"math"
	"slices"
	"testing"

	"rebuttal/api"
	"rebuttal/submit"
)

func newBox(t *testing.T, c api.Call, l ...api.Arrival) *submit.Box {
	t.Helper()
	b, e := submit.NewBox(c)
	is(t, e, api.OK)
	for _, a := range l {
		_, e := b.Put(a)
		is(t, e, api.OK)
	}
	return b
}

// many are so many different arrivals that count.
func many(n int) []api.Arrival {
	var l []api.Arrival
	for i := range n {
		l = append(l, arrival(11+i, api.ArriveBack, ""))
	}
	return l
}

// P2.4: Put.
func TestPut(t *testing.T) {
	b := newBox(t, example())
	is(t, b.Arrivals(), []api.Arrival{})
	a := arrival(900, api.ArriveFull, "late\n")
	for _, want := range []bool{true, false, false} {
		is, e := b.Put(a)
		if is != want || e != api.OK {
			t.Error(is, e)
		}
	}
	for _, other := range []api.Arrival{
		{Paper: "q", At: 900, Kind: api.ArriveFull, Text: "late\n"},
		{Paper: "p", At: 901, Kind: api.ArriveFull, Text: "late\n"},
		{Paper: "p", At: 900, Kind: api.ArriveAbstract, Text: "late\n"},
		{Paper: "p", At: 900, Kind: api.ArriveFull, Reason: "ill", Text: "late\n"},
		{Paper: "p", At: 900, Kind: api.ArriveFull, Text: ""},
	} {
		new, e := b.Put(other)
		is(t, all(new, e), all(true, api.OK))
	}
	is(t, len(b.Arrivals()), 6)
	new, e := b.Put(api.Arrival{Paper: "p", At: -1})
	is(t, all(new, e), all(false, api.ErrArg))
	new, e = b.Put(arrival(5, api.ArriveBack, "x\n"))
	is(t, all(new, e), all(false, api.ErrForm))
	is(t, len(b.Arrivals()), 6)
}

// P2.4: NewBox.
func TestNewBox(t *testing.T) {
	b, e := submit.NewBox(api.Call{Opens: -1})
	is(t, all(b == nil, e), all(true, api.ErrArg))
	b, e = submit.NewBox(api.Call{})
	is(t, all(b == nil, e), all(true, api.ErrOrder))
	// The box does not look at the caller's list again (Z2).
	c := example()
	b = newBox(t, c, api.Arrival{Paper: "p", At: 120, Kind: api.ArriveAbstract, Reason: "ill"})
	c.Reasons[0].More = 1
	l, e := b.Entries(200)
	is(t, all(len(l), e), all(1, api.OK))
}

// P2.4: a full box.
func TestFullBox(t *testing.T) {
	l := many(api.MaxArrivals + 1)
	b := newBox(t, example(), l[:api.MaxArrivals]...)
	new, e := b.Put(l[api.MaxArrivals])
	is(t, all(new, e), all(false, api.ErrFull))
	new, e = b.Put(l[7])
	is(t, all(new, e), all(false, api.OK))
	new, e = b.Put(api.Arrival{})
	is(t, all(new, e), all(false, api.ErrName))
	is(t, b.Arrivals(), l[:api.MaxArrivals])
	half := newBox(t, example(), l[1:]...)
	n, e := b.Join(half)
	is(t, all(n, e, b.Arrivals(), half.Arrivals()), all(0, api.ErrFull, l[:api.MaxArrivals], l[1:]))
	n, e = b.Join(newBox(t, example(), l[5:900]...))
	is(t, all(n, e, len(b.Arrivals())), all(0, api.OK, api.MaxArrivals))
}

// P2.4: Join.
func TestJoin(t *testing.T) {
	l := many(10)
	a, b := newBox(t, example(), l[:6]...), newBox(t, example(), l[3:]...)
	n, e := a.Join(b)
	is(t, all(n, e, a.Arrivals(), b.Arrivals()), all(4, api.OK, l, l[3:]))
	n, e = a.Join(b)
	is(t, all(n, e), all(0, api.OK))
	n, e = a.Join(a)
	is(t, all(n, e, a.Arrivals()), all(0, api.OK, l))
	// What is put into one box later is not in the other one.
	if _, e := b.Put(arrival(500, api.ArriveBack, "")); e != api.OK {
		t.Error(e)
	}
	is(t, a.Arrivals(), l)
	big := many(api.MaxArrivals)
	a, b = newBox(t, example(), big[:1500]...), newBox(t, example(), big[1000:]...)
	n, e = a.Join(b)
	is(t, all(n, e, a.Arrivals()), all(500, api.OK, big))
}

// P2.4: boxes of different calls are not joined, even if there would be too many.
func TestJoinConflict(t *testing.T) {
	big := many(api.MaxArrivals + 1)
	for _, spoil := range []func(*api.Call){
		func(c *api.Call) { c.Opens++ },
		func(c *api.Call) { c.Abstract++ },
		func(c *api.Call) { c.Full++ },
		func(c *api.Call) { c.Reasons[1].More-- },
		func(c *api.Call) { c.Reasons[1].Key = "j" },
		func(c *api.Call) { c.Reasons = c.Reasons[:1] },
		func(c *api.Call) { c.Reasons = nil },
	} {
		c := example()
		spoil(&c)
		a, b := newBox(t, example(), big[:1500]...), newBox(t, c, big[1000:]...)
		n, e := a.Join(b)
		is(t, all(n, e, len(a.Arrivals())), all(0, api.ErrConflict, 1500))
		n, e = b.Join(a)
		is(t, all(n, e, len(b.Arrivals())), all(0, api.ErrConflict, 1001))
	}
	none := api.Call{Abstract: 1, Full: 1}
	empty := api.Call{Abstract: 1, Full: 1, Reasons: []api.Reason{}}
	n, e := newBox(t, none).Join(newBox(t, empty))
	is(t, all(n, e), all(0, api.OK))
}

// P2.4: Arrivals are by paper, then in their order, each once.
func TestArrivals(t *testing.T) {
	want := []api.Arrival{
		{Paper: "a", At: 70, Kind: api.ArriveBack},
		{Paper: "b", At: 2, Kind: api.ArriveFull, Text: "z\n"},
		{Paper: "b", At: 10, Kind: api.ArriveAbstract, Reason: "ill", Text: "z\n"},
		{Paper: "b", At: 10, Kind: api.ArriveFull, Text: ""},
		{Paper: "b", At: 10, Kind: api.ArriveFull, Text: "a\n"},
		{Paper: "b", At: 10, Kind: api.ArriveFull, Text: "b\n"},
		{Paper: "b", At: 10, Kind: api.ArriveFull, Reason: "a", Text: "a\n"},
		{Paper: "b", At: 10, Kind: api.ArriveFull, Reason: "b", Text: ""},
		{Paper: "b", At: 10, Kind: api.ArriveBack},
		{Paper: "c", At: 0, Kind: api.ArriveAbstract},
	}
	d := dice(11)
	for range 20 {
		b := newBox(t, example(), shuffled(&d, append(want, want...))...)
		got := b.Arrivals()
		is(t, got, want)
		// Results are new memory (Z2).
		got[0] = api.Arrival{}
		is(t, b.Arrivals(), want)
	}
}

// P2.4: Entries are States of the arrivals.
func TestEntries(t *testing.T) {
	d := dice(13)
	for range 50 {
		l := d.arrivals()
		b := newBox(t, narrow(), l...)
		for at := 0; at < 130; at += 5 {
			want, _ := submit.States(narrow(), l, at)
			got, e := b.Entries(at)
			is(t, all(got, e), all(want, api.OK))
		}
	}
	b := newBox(t, narrow())
	for _, at := range []int{-1, api.End, math.MinInt, math.MaxInt} {
		l, e := b.Entries(at)
		is(t, all(l, e), all([]api.Entry{}, api.ErrArg))
	}
	l, e := b.Entries(api.End - 1)
	is(t, all(l, e), all([]api.Entry{}, api.OK))
}

// P2.4: whoever works apart, everybody ends with the same.
func TestJoinInAnyOrder(t *testing.T) {
	d := dice(17)
	for range 50 {
		parts := [][]api.Arrival{d.arrivals(), d.arrivals(), d.arrivals()}
		together := newBox(t, narrow(), slices.Concat(parts...)...)
		one := newBox(t, narrow())
		sum := 0
		for _, l := range shuffled(&d, parts) {
			n, e := one.Join(newBox(t, narrow(), l...))
			is(t, e, api.OK)
			sum += n
		}
		is(t, all(one.Arrivals(), sum), all(together.Arrivals(), len(together.Arrivals())))
	}
}
