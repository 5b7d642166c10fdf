package submit

import (
	"cmp"
	"maps"
	"slices"
	"strings"

	"rebuttal/api"
	"rebuttal/syntax"
)

// State is what there is of a paper at a moment.
func State(c api.Call, l []api.Arrival, id string, at int) (api.Entry, api.Errno) {
	if e := checkArrivals(c, l); e != api.OK {
		return api.Entry{}, e
	}
	if !syntax.Key(id) {
		return api.Entry{}, api.ErrName
	}
	if !syntax.Moment(at) {
		return api.Entry{}, api.ErrArg
	}
	return entry(id, histories(c, l)[id], at), api.OK
}

// States is what there is of all papers at a moment.
func States(c api.Call, l []api.Arrival, at int) ([]api.Entry, api.Errno) {
	if e := checkArrivals(c, l); e != api.OK {
		return nil, e
	}
	if !syntax.Moment(at) {
		return nil, api.ErrArg
	}
	return entries(histories(c, l), at), api.OK
}

// Moments are the moments at which the state of a paper changes.
func Moments(c api.Call, l []api.Arrival, id string) ([]int, api.Errno) {
	if e := checkArrivals(c, l); e != api.OK {
		return nil, e
	}
	if !syntax.Key(id) {
		return nil, api.ErrName
	}
	history := histories(c, l)[id]
	var moments []int
	before := absent(id)
	// Between two arrivals that count nothing changes: the state at the one before is that at the moment before.
	for _, a := range history {
		now := entry(id, history, a.At)
		if now != before {
			moments = append(moments, a.At)
		}
		before = now
	}
	return moments, api.OK
}

func checkArrivals(c api.Call, l []api.Arrival) api.Errno {
	if e := CheckCall(c); e != api.OK {
		return e
	}
	return syntax.Each(l, api.MaxArrivals, CheckArrival)
}

// histories are the arrivals that count by themselves, of each paper in their order.
func histories(c api.Call, l []api.Arrival) map[string][]api.Arrival {
	m := map[string][]api.Arrival{}
	for _, a := range slices.SortedFunc(slices.Values(l), compareArrivals) {
		if counts(c, a) == api.CountsYes {
			m[a.Paper] = append(m[a.Paper], a)
		}
	}
	return m
}

// entries are those of all papers of which there is something, by paper.
func entries(histories map[string][]api.Arrival, at int) []api.Entry {
	var l []api.Entry
	for _, id := range slices.Sorted(maps.Keys(histories)) {
		if x := entry(id, histories[id], at); x.Status != api.StatusNone {
			l = append(l, x)
		}
	}
	return l
}

// entry is what there is of a paper at a moment, by its history.
func entry(id string, history []api.Arrival, at int) api.Entry {
	x := api.Entry{Paper: id}
	var last api.Arrival
	abstract, full := false, false
	for _, a := range history {
		if a.At > at {
			break
		}
		switch a.Kind {
		case api.ArriveAbstract:
			x.Abstract, abstract = a.Text, true
		case api.ArriveFull:
			x.Full, full = a.Text, true
		}
		last = a
	}
	if !abstract {
		return absent(id)
	}
	x.Status, x.Since = status(full, last.Kind), last.At
	return x
}

// status is that of a paper with an abstract.
func status(full bool, last int) int {
	switch {
	case last == api.ArriveBack:
		return api.StatusBack
	case full:
		return api.StatusFull
	}
	return api.StatusAbstract
}

// absent is the entry of a paper of which there is nothing.
func absent(id string) api.Entry { return api.Entry{Paper: id, Status: api.StatusNone} }

// compareArrivals is the order of arrivals, those of a paper together; only equal ones are not apart.
func compareArrivals(a, b api.Arrival) int {
	return cmp.Or(
		strings.Compare(a.Paper, b.Paper),
		cmp.Compare(a.At, b.At),
		cmp.Compare(a.Kind, b.Kind),
		strings.Compare(a.Reason, b.Reason),
		strings.Compare(a.Text, b.Text),
	)
}
