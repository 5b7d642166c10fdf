package discuss_test

import (
	"math"
	"slices"
	"testing"

	"rebuttal/api"
	"rebuttal/discuss"
)

// greatest has as much as there can be.
func greatest() api.Board {
	b := api.Board{Pairs: many(api.MaxPapers * api.MaxPeople), Heads: keys(api.MaxHeads)}
	for _, p := range b.Pairs {
		b.Barred = append(b.Barred, pair(p.Paper, "z"+p.Person))
	}
	for i := range api.MaxTurns {
		b.Turns = append(b.Turns, api.Turn{At: i / 2, Paper: "k0000", Open: i%2 == 0})
	}
	b.Turns[api.MaxTurns-1].Paper, b.Turns[api.MaxTurns-1].Open = "z", true
	return b
}

// P7.3: boards that are right.
func TestCheckBoard(t *testing.T) {
	for _, b := range []api.Board{
		{},
		example(),
		greatest(),
		{Turns: turns("0 p open", "0 p shut", "0 p open")},
		{Turns: []api.Turn{{At: last, Paper: "p", Open: true}}},
	} {
		is(t, discuss.CheckBoard(b), api.OK)
	}
}

// P7.3: the errors of Pairs, Barred and Heads, in order.
func TestCheckBoardPairs(t *testing.T) {
	bad := append(many(api.MaxPapers*api.MaxPeople), pair("P", "a"))
	b := api.Board{Pairs: bad, Barred: bad, Heads: append(keys(api.MaxHeads), "A"), Turns: make([]api.Turn, api.MaxTurns+1)}
	climb(t, b, discuss.CheckBoard, []rung[api.Board]{
		{api.ErrLarge, func(b *api.Board) { b.Pairs = list("z a", "P a") }},
		{api.ErrName, func(b *api.Board) { b.Pairs = list("z a", "z a", "P a") }},
		{api.ErrOrder, func(b *api.Board) { b.Pairs = list("p b", "p a") }},
		{api.ErrOrder, func(b *api.Board) { b.Pairs = list("p a", "q b") }},
		{api.ErrLarge, func(b *api.Board) { b.Barred = list("q b", "q ?", "p a") }},
		{api.ErrName, func(b *api.Board) { b.Barred = list("q b", "p a") }},
		{api.ErrOrder, func(b *api.Board) { b.Barred = list("p c", "q b") }},
		{api.ErrConflict, func(b *api.Board) { b.Barred = list("p a", "q a") }},
		{api.ErrConflict, func(b *api.Board) { b.Barred = list("a p", "p b", "q a") }},
		{api.ErrLarge, func(b *api.Board) { b.Heads = []string{"b", "A", "a"} }},
		{api.ErrName, func(b *api.Board) { b.Heads = []string{"b", "b", "A"} }},
		{api.ErrOrder, func(b *api.Board) { b.Heads = []string{"b", "a"} }},
		{api.ErrOrder, func(b *api.Board) { b.Heads = []string{"a", "b"} }},
		{api.ErrLarge, func(b *api.Board) { b.Turns = b.Turns[:api.MaxTurns] }},
		{api.ErrName, func(b *api.Board) { b.Turns = nil }},
	})
	for _, key := range badKeys {
		for _, b := range []api.Board{
			{Pairs: []api.Pair{pair(key, "a")}},
			{Pairs: []api.Pair{pair("p", key)}},
			{Barred: []api.Pair{pair(key, "a")}},
			{Barred: []api.Pair{pair("p", key)}},
			{Heads: []string{key}},
			{Turns: []api.Turn{{Paper: key, Open: true}}},
		} {
			is(t, discuss.CheckBoard(b), api.ErrName)
		}
	}
}

// P7.3: the errors of Turns, in order.
func TestCheckBoardTurns(t *testing.T) {
	check := func(l []api.Turn) api.Errno { return discuss.CheckBoard(api.Board{Turns: l}) }
	l := make([]api.Turn, api.MaxTurns+1)
	l[0].At = -1
	climb(t, l, check, []rung[[]api.Turn]{
		{api.ErrLarge, func(l *[]api.Turn) { *l = (*l)[:4] }},
		{api.ErrArg, at(0, func(x *api.Turn) { x.At = 5 })},
		{api.ErrName, at(0, func(x *api.Turn) { x.Paper = "p" })},
		{api.ErrState, at(0, func(x *api.Turn) { x.Open = true })},
		{api.ErrOrder, at(1, func(x *api.Turn) { x.At = api.End })},
		{api.ErrArg, at(1, func(x *api.Turn) { x.At = 4 })},
		{api.ErrOrder, at(1, func(x *api.Turn) { x.At = 5 })},
		{api.ErrName, at(1, func(x *api.Turn) { x.Paper = "q" })},
		{api.ErrState, at(1, func(x *api.Turn) { x.Paper, x.Open = "p", true })},
		{api.ErrState, at(1, func(x *api.Turn) { x.Open = false })},
		{api.ErrOrder, at(2, func(x *api.Turn) { x.At, x.Paper = 6, "p" })},
		{api.ErrState, at(2, func(x *api.Turn) { x.Open = true })},
		{api.ErrOrder, at(3, func(x *api.Turn) { x.At, x.Paper, x.Open = 6, "q", true })},
	})
	for _, n := range badMoments {
		is(t, check([]api.Turn{{At: n, Paper: "P"}}), api.ErrArg)
	}
}

// wrongBoards are boards with each of the errors.
func wrongBoards() map[api.Errno]api.Board {
	l := map[api.Errno]api.Board{}
	for e, wrong := range map[api.Errno]func(*api.Board){
		api.ErrLarge:    func(b *api.Board) { b.Heads = keys(api.MaxHeads + 1) },
		api.ErrName:     func(b *api.Board) { b.Pairs[0].Person = "Ann" },
		api.ErrOrder:    func(b *api.Board) { slices.Reverse(b.Barred) },
		api.ErrConflict: func(b *api.Board) { b.Pairs[1].Person = "cid" },
		api.ErrArg:      func(b *api.Board) { b.Turns[0].At = -1 },
		api.ErrState:    func(b *api.Board) { b.Turns[1].Open = false },
	} {
		b := example()
		wrong(&b)
		l[e] = b
	}
	return l
}

// P7.3: all functions return the error of the board first, then that of the posts.
func TestErrorsOfBoardsAndPosts(t *testing.T) {
	wrong := inputs{posts: []api.Post{{}}, post: api.Post{At: -1}, paper: "?", person: "?", at: -1, text: "?"}
	for want, b := range wrongBoards() {
		wrong.board = b
		is(t, discuss.CheckBoard(b), want)
		for name, r := range wrong.ofBoards() {
			if r[len(r)-1] != want {
				t.Error(name, show(r), want)
			}
		}
	}
	wrong.board = example()
	for want, l := range wrongPosts() {
		wrong.posts = l
		for name, r := range wrong.ofPosts() {
			if r[len(r)-1] != want {
				t.Error(name, show(r), want)
			}
		}
	}
}

// P7.3: when threads are open.
func TestOpen(t *testing.T) {
	for _, c := range []struct {
		paper string
		at    int
		want  bool
	}{
		{"p", 0, false}, {"p", 9, false}, {"p", 10, true}, {"p", 19, true}, {"p", 20, false}, {"p", 29, false}, {"p", 30, true}, {"p", last, true},
		{"q", 9, false}, {"q", 10, true}, {"q", 20, true}, {"q", 49, true}, {"q", 50, false}, {"q", last, false},
		{"r", 39, false}, {"r", 40, false}, {"r", 41, false}, {"s", last, false}, {"t", 59, false}, {"t", 60, true}, {"x", 10, false}, {"ann", 10, false},
	} {
		is(t, all(c.paper, c.at, pack(discuss.Open(example(), c.paper, c.at))), all(c.paper, c.at, all(c.want, api.OK)))
	}
	d := dice(11)
	for range 300 {
		b := d.board(t, 9)
		for _, paper := range somePapers {
			for n := range 11 {
				is(t, pack(discuss.Open(b, paper, n)), all(plainOpen(b, paper, n), api.OK))
			}
		}
	}
}

// P7.3: who may talk about what, and when.
func TestMay(t *testing.T) {
	for _, c := range []struct {
		paper, person string
		at            int
		want          bool
	}{
		{"p", "ann", 9, false}, {"p", "ann", 10, true}, {"p", "ann", 20, false}, {"p", "ann", 30, true},
		{"p", "bob", 10, true}, {"p", "cid", 10, false}, {"p", "kim", 10, true}, {"p", "kim", 20, false}, {"p", "hal", 10, false}, {"p", "dee", 10, false}, {"p", "zoe", 10, false},
		{"q", "ann", 10, false}, {"q", "bob", 10, true}, {"q", "hal", 10, true}, {"q", "kim", 49, true}, {"q", "kim", 50, false},
		{"r", "ann", 40, false}, {"r", "hal", 40, false}, {"s", "cid", last, false}, {"t", "hal", 60, true}, {"t", "kim", 60, false}, {"x", "kim", 60, false},
	} {
		is(t, all(c, pack(discuss.May(example(), c.paper, c.person, c.at))), all(c, all(c.want, api.OK)))
	}
	d := dice(13)
	for range 200 {
		b := d.board(t, 4)
		for _, p := range somePapers {
			for _, a := range somePeople {
				n := d.below(6)
				is(t, pack(discuss.May(b, p, a, n)), all(plainMay(b, p, a, n), api.OK))
			}
		}
	}
}

// P7.3: the errors of Open and May.
func TestMayErrors(t *testing.T) {
	for _, key := range badKeys {
		is(t, pack(discuss.Open(example(), key, -1)), all(false, api.ErrName))
		is(t, pack(discuss.May(example(), key, "kim", -1)), all(false, api.ErrName))
		is(t, pack(discuss.May(example(), "p", key, -1)), all(false, api.ErrName))
		is(t, pack(discuss.May(example(), "p", key, 10)), all(false, api.ErrName))
	}
	for _, n := range append(badMoments, math.MinInt+10) {
		is(t, pack(discuss.Open(example(), "p", n)), all(false, api.ErrArg))
		is(t, pack(discuss.May(example(), "p", "kim", n)), all(false, api.ErrArg))
	}
}
