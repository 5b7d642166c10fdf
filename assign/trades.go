package assign

import (
	"cmp"
	"slices"

	"rebuttal/api"
	"rebuttal/pairs"
)

// maxSteps is how many trades Improve makes at most.
const maxSteps = 10_000

// Trades are the trades that gain something.
func Trades(t api.Task, l []api.Pair) ([]api.Trade, api.Errno) {
	h, e := newHolding(t, l)
	if e != api.OK {
		return nil, e
	}
	var trades []api.Trade
	h.trades(func(x, y spot, gain int) {
		trades = append(trades, api.Trade{First: h.pair(x), Second: h.pair(y), Gain: gain})
	})
	// Stable, because they come by First, then Second.
	slices.SortStableFunc(trades, func(a, b api.Trade) int { return cmp.Compare(b.Gain, a.Gain) })
	return trades, api.OK
}

// Apply is an assignment after a trade.
func Apply(t api.Task, l []api.Pair, x api.Trade) ([]api.Pair, api.Errno) {
	h, e := newHolding(t, l)
	if e != api.OK {
		return nil, e
	}
	if !pairs.Has(l, x.First) || !pairs.Has(l, x.Second) {
		return nil, api.ErrNone
	}
	first, _ := h.spot(x.First)
	second, _ := h.spot(x.Second)
	if !h.isTrade(first, second) {
		return nil, api.ErrRule
	}
	if h.gain(first, second) != x.Gain {
		return nil, api.ErrArg
	}
	h.exchange(first, second)
	return h.list(&h.in), api.OK
}

// Improve makes the first one of the trades, again and again.
func Improve(t api.Task, l []api.Pair, steps int) ([]api.Pair, api.Errno) {
	h, e := newHolding(t, l)
	if e != api.OK {
		return nil, e
	}
	if steps < 0 || steps > maxSteps {
		return nil, api.ErrArg
	}
	for range steps {
		if !h.improve() {
			break
		}
	}
	return h.list(&h.in), api.OK
}

// improve makes the first one of the trades, if there is one.
func (h *holding) improve() bool {
	var first, second spot
	most := 0
	h.trades(func(x, y spot, gain int) {
		if gain > most {
			first, second, most = x, y, gain
		}
	})
	if most == 0 {
		return false
	}
	h.exchange(first, second)
	return true
}

// trades calls visit for all trades that gain something, by the first pair, then the second one.
func (h *holding) trades(visit func(x, y spot, gain int)) {
	l := h.marked(&h.in)
	for n, x := range l {
		for _, y := range l[n+1:] {
			if gain := h.gain(x, y); gain > 0 && h.isTrade(x, y) {
				visit(x, y, gain)
			}
		}
	}
}

// gain is what it is worth that two persons exchange their papers.
func (h *holding) gain(x, y spot) int {
	before := h.worth[x.paper][x.person] + h.worth[y.paper][y.person]
	after := h.worth[x.paper][y.person] + h.worth[y.paper][x.person]
	return after - before
}

// isTrade reports whether two persons can exchange their papers. (Nobody can with themselves, because they read both already.)
func (h *holding) isTrade(x, y spot) bool {
	locked := h.locked[x.paper][x.person] || h.locked[y.paper][y.person]
	free := h.canRead(x.paper, y.person) && h.canRead(y.paper, x.person)
	return x.paper < y.paper && !locked && free
}

// canRead reports whether a pair can be added.
func (h *holding) canRead(i, j int) bool { return !h.barred[i][j] && !h.in[i][j] }

func (h *holding) exchange(x, y spot) {
	h.in[x.paper][x.person], h.in[y.paper][y.person] = false, false
	h.in[x.paper][y.person], h.in[y.paper][x.person] = true, true
}
