package submit

import (
	"maps"
	"slices"

	"rebuttal/api"
	"rebuttal/syntax"
)

// Box keeps arrivals.
type Box struct {
	call     api.Call
	arrivals map[api.Arrival]bool
}

// NewBox is an empty box.
func NewBox(c api.Call) (*Box, api.Errno) {
	if e := CheckCall(c); e != api.OK {
		return nil, e
	}
	c.Reasons = slices.Clone(c.Reasons)
	return &Box{call: c, arrivals: map[api.Arrival]bool{}}, api.OK
}

// Put adds an arrival, and reports whether it was not there.
func (b *Box) Put(a api.Arrival) (bool, api.Errno) {
	if e := CheckArrival(a); e != api.OK {
		return false, e
	}
	if b.arrivals[a] {
		return false, api.OK
	}
	if len(b.arrivals) >= api.MaxArrivals {
		return false, api.ErrFull
	}
	b.arrivals[a] = true
	return true, api.OK
}

// Join adds all arrivals of another box, and tells how many were new.
func (b *Box) Join(o *Box) (int, api.Errno) {
	if !sameCalls(b.call, o.call) {
		return 0, api.ErrConflict
	}
	added := 0
	for a := range o.arrivals {
		if !b.arrivals[a] {
			added++
		}
	}
	if len(b.arrivals)+added > api.MaxArrivals {
		return 0, api.ErrFull
	}
	maps.Copy(b.arrivals, o.arrivals)
	return added, api.OK
}

// Arrivals are all arrivals, in order.
func (b *Box) Arrivals() []api.Arrival {
	return slices.SortedFunc(maps.Keys(b.arrivals), compareArrivals)
}

// Entries is what there is of all papers at a moment.
func (b *Box) Entries(at int) ([]api.Entry, api.Errno) {
	if !syntax.Moment(at) {
		return nil, api.ErrArg
	}
	return entries(histories(b.call, b.Arrivals()), at), api.OK
}

func sameCalls(a, b api.Call) bool {
	moments := a.Opens == b.Opens && a.Abstract == b.Abstract && a.Full == b.Full
	return moments && slices.Equal(a.Reasons, b.Reasons)
}
