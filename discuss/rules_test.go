package discuss_test

import (
	"fmt"
	"maps"
	"math"
	"reflect"
	"slices"
	"strings"
	"sync"
	"testing"

	"rebuttal/api"
	"rebuttal/discuss"
)

// inputs is all that a function can be given.
type inputs struct {
	marks          []api.Mark
	talk           api.TalkRules
	names, replied []string
	reply          api.ReplyRules
	replies        []api.Reply
	board          api.Board
	posts          []api.Post
	post           api.Post
	paper, person  string
	at             int
	decide         api.DecideRules
	quotas         []api.Quota
	papers         []api.Paper
	leave          []api.Pair
	text           string
}

// results calls every function, and returns what each one returns.
func (x inputs) results() map[string][]any {
	r := map[string][]any{
		"CheckMarks":   all(discuss.CheckMarks(x.marks)),
		"Mean":         pack(discuss.Mean(x.marks, x.paper)),
		"Talks":        pack(discuss.Talks(x.talk, x.names, x.marks, x.replied)),
		"CheckReplies": all(discuss.CheckReplies(x.replies)),
		"Counted":      pack(discuss.Counted(x.reply, x.replies)),
		"Replied":      pack(discuss.Replied(x.reply, x.replies)),
		"Order":        pack(discuss.Order(x.decide, x.marks, x.paper, x.person)),
		"Decide":       pack(discuss.Decide(x.decide, x.quotas, x.papers, x.marks)),
		"Nearly":       pack(discuss.Nearly(x.decide, x.quotas, x.papers, x.marks)),
		"Moves":        pack(discuss.Moves(x.names, x.leave)),
		"Steps":        pack(discuss.Steps(x.names, x.leave)),
		"Best":         pack3(discuss.Best(x.names, x.leave)),
		"Greedy":       pack3(discuss.Greedy(x.names, x.leave)),
	}
	maps.Copy(r, x.ofBoards())
	return r
}

// ofBoards are the results of all functions with a board.
func (x inputs) ofBoards() map[string][]any {
	r := map[string][]any{
		"CheckBoard": all(discuss.CheckBoard(x.board)),
		"Open":       pack(discuss.Open(x.board, x.paper, x.at)),
		"May":        pack(discuss.May(x.board, x.paper, x.person, x.at)),
		"Read":       pack3(discuss.Read(x.board, x.text)),
	}
	maps.Copy(r, x.ofPosts())
	return r
}

// ofPosts are the results of all functions with a board and posts.
func (x inputs) ofPosts() map[string][]any {
	return map[string][]any{
		"CheckPosts": all(discuss.CheckPosts(x.board, x.posts)),
		"Add":        pack(discuss.Add(x.board, x.posts, x.post)),
		"Thread":     pack(discuss.Thread(x.board, x.posts, x.paper)),
		"Silent":     pack(discuss.Silent(x.board, x.posts, x.paper)),
		"Unanswered": pack(discuss.Unanswered(x.board, x.posts)),
		"Text":       pack(discuss.Text(x.board, x.posts)),
	}
}

// odd is a number that is mostly small.
func (d *dice) odd(most int) int {
	if d.below(10) > 0 {
		return d.below(most)
	}
	l := []int{math.MinInt, -1, 0, most, api.End, math.MaxInt}
	return l[d.below(len(l))]
}

// inputs are some of which most are right.
func (d *dice) inputs(t *testing.T) inputs {
	x := inputs{talk: d.talkRules(), names: d.some(somePapers, 2), replied: d.some(somePapers, 2), replies: d.replies(9), at: d.odd(6)}
	x.reply = api.ReplyRules{Window: api.Window{From: d.below(3), To: 3 + d.below(3)}, Most: d.odd(9)}
	x.board = d.board(t, 5)
	x.posts = d.posts(t, x.board, 5)
	x.paper, x.person = d.pick(somePapers), d.pick(somePeople)
	x.post = api.Post{At: 5, Paper: x.paper, Person: x.person, Words: d.pick(someTexts)}
	y := d.ruling(t)
	x.decide, x.quotas, x.papers, x.marks = y.r, y.quotas, y.papers, y.l
	x.leave = d.pairs(somePapers, somePeople, 2)
	x.text = plainText(x.posts)
	return x
}

// spoiled has one thing that is wrong, or may be.
func (x inputs) spoiled(d *dice) inputs {
	words := []string{"", "A", "\xff", "a b", "p", "z", strings.Repeat("z", 200_000)}
	p := pair(d.pick(words), d.pick(words))
	switch d.below(15) {
	case 0:
		x.marks = append(x.marks, api.Mark{Pair: p, Score: d.odd(12)})
	case 1:
		x.talk = api.TalkRules{Spread: d.odd(9), Middle: api.Window{From: d.odd(9), To: d.odd(99)}, Few: d.odd(9)}
	case 2:
		x.names = append(x.names, d.pick(words))
	case 3:
		x.replied = append(x.replied, d.pick(words))
	case 4:
		x.reply.Window.To = d.odd(3)
	case 5:
		x.replies = append(x.replies, api.Reply{Paper: p.Paper, At: d.odd(9), Words: d.pick(words)})
	case 6:
		x.board.Pairs, x.board.Heads = append(x.board.Pairs, p), append(x.board.Heads, p.Person)
	case 7:
		x.board.Turns = append(x.board.Turns, api.Turn{At: d.odd(9), Paper: p.Paper, Open: d.below(2) == 0})
	case 8:
		x.posts = append(x.posts, api.Post{No: len(x.posts) + 1, At: d.odd(9), Paper: p.Paper, Person: p.Person, To: d.odd(3), Words: d.pick(words)})
	case 9:
		x.post.At, x.post.To, x.post.Words = d.odd(9), d.odd(9), d.pick(words)
	case 10:
		x.paper, x.person = p.Paper, p.Person
	case 11:
		x.decide.By, x.decide.Floor = append(x.decide.By, d.odd(6)), d.odd(101)
	case 12:
		x.quotas, x.papers = append(x.quotas, api.Quota{Track: p.Paper, Most: d.odd(9)}), append(x.papers, paper(p.Person, "main"))
	case 13:
		x.leave = append(x.leave, p)
	case 14:
		x.text += d.pick(words) + d.pick([]string{"", "\n"})
	}
	return x
}

// memories are the arrays of all lists in a value, also what is behind their length.
func memories(v reflect.Value) [][2]uintptr {
	var l [][2]uintptr
	switch v.Kind() {
	case reflect.Interface:
		return memories(v.Elem())
	case reflect.Struct:
		for i := range v.NumField() {
			l = append(l, memories(v.Field(i))...)
		}
	case reflect.Slice:
		if v.Cap() > 0 {
			from := v.Pointer()
			l = append(l, [2]uintptr{from, from + uintptr(v.Cap())*v.Type().Elem().Size()})
		}
		for i := range v.Len() {
			l = append(l, memories(v.Index(i))...)
		}
	}
	return l
}

// whole is a value with its lists as long as their memory.
func whole(v reflect.Value) any {
	var l []any
	switch v.Kind() {
	case reflect.Struct:
		for i := range v.NumField() {
			l = append(l, whole(v.Field(i)))
		}
	case reflect.Slice:
		for i := range v.Cap() {
			l = append(l, whole(v.Slice(0, v.Cap()).Index(i)))
		}
	default:
		return fmt.Sprint(v)
	}
	return l
}

// roomy has lists with something behind their length.
func roomy[T any](l []T) []T { return slices.Grow(slices.Clone(l), 3)[:len(l)] }

func (x inputs) roomy() inputs {
	x.marks, x.names, x.replied, x.replies = roomy(x.marks), roomy(x.names), roomy(x.replied), roomy(x.replies)
	x.board = api.Board{Pairs: roomy(x.board.Pairs), Barred: roomy(x.board.Barred), Heads: roomy(x.board.Heads), Turns: roomy(x.board.Turns)}
	x.posts, x.decide.By, x.quotas, x.leave, x.papers = roomy(x.posts), roomy(x.decide.By), roomy(x.quotas), roomy(x.leave), roomy(x.papers)
	for i := range x.papers {
		x.papers[i].Authors = roomy(x.papers[i].Authors)
	}
	return x
}

// Z1, Z2, Z7: nothing panics, arguments stay as they are, the same ones give the same results, and these are new memory, also with respect to each other.
func TestMemory(t *testing.T) {
	d := dice(41)
	for range 400 {
		x := d.inputs(t).roomy()
		if d.below(2) == 0 {
			x = x.spoiled(&d)
		}
		before := fmt.Sprint(whole(reflect.ValueOf(x)))
		results := x.results()
		is(t, fmt.Sprint(whole(reflect.ValueOf(x))) == before, true)
		given := memories(reflect.ValueOf(x))
		for name, r := range results {
			l := memories(reflect.ValueOf(r))[1:]
			for i, a := range l {
				for _, b := range slices.Concat(l[:i], given) {
					if a[0] < b[1] && b[0] < a[1] {
						t.Errorf("%s: memory of a result is there twice", name)
					}
				}
			}
		}
		is(t, show(x.results()), show(results))
	}
}

// Z3: with an error there is nothing else, but for the number of a line.
func TestZeroValues(t *testing.T) {
	d := dice(43)
	failed, right := map[string]bool{}, map[string]bool{}
	for range 1500 {
		for name, r := range d.inputs(t).spoiled(&d).results() {
			e := r[len(r)-1]
			if e == api.OK {
				right[name] = true
				continue
			}
			failed[name] = true
			for i, v := range r[:len(r)-1] {
				v := reflect.ValueOf(v)
				empty := v.IsZero() || v.Kind() == reflect.Slice && v.Len() == 0
				line := name == "Read" && i == 1 && e == api.ErrSyntax
				if !empty && !line {
					t.Error(name, show(r))
				}
			}
		}
	}
	is(t, all(len(failed), len(right)), all(23, 23))
}

// Z5: empty lists are as nil ones.
func TestEmptyLists(t *testing.T) {
	x := inputs{paper: "p", person: "a", post: api.Post{Paper: "p", Person: "a", Words: "a\n"}, talk: api.TalkRules{Few: 1, Reply: true}}
	y := x
	y.marks, y.names, y.replied, y.replies, y.posts = []api.Mark{}, []string{}, []string{}, []api.Reply{}, []api.Post{}
	y.board = api.Board{Pairs: []api.Pair{}, Barred: []api.Pair{}, Heads: []string{}, Turns: []api.Turn{}}
	y.decide.By, y.quotas, y.papers, y.leave = []int{}, []api.Quota{}, []api.Paper{}, []api.Pair{}
	is(t, show(y.results()), show(x.results()))
	x.decide, x.papers, x.names = by(0, api.CritMean), papers("p/main"), []string{"p"}
	y.decide, y.papers, y.names = by(0, api.CritMean), papers("p/main"), []string{"p"}
	y.papers[0].Topics = []string{}
	is(t, show(y.results()), show(x.results()))
}

// Z1: any number of goroutines at once.
func TestAtOnce(t *testing.T) {
	d := dice(47)
	for range 20 {
		x := d.inputs(t)
		want := show(x.results())
		var group sync.WaitGroup
		for range 4 {
			group.Go(func() { is(t, show(x.results()), want) })
		}
		group.Wait()
	}
}

// Z1: the greatest arguments come to an end.
func TestGreatest(t *testing.T) {
	x := inputs{board: greatest(), marks: grid(api.MaxPapers, 7), names: keys(api.MaxPapers), replied: keys(api.MaxPapers), leave: many(api.MaxPapers * api.MaxPeople)}
	x.paper, x.person, x.at = "k0000", "k0001", api.MaxTurns/2-2
	x.talk, x.reply = api.TalkRules{Few: api.MaxEach + 1}, api.ReplyRules{Window: api.Window{To: api.End}, Most: api.MaxReply}
	x.decide, x.quotas = by(0, everything()...), []api.Quota{{Track: "main", Most: 200}}
	for _, key := range keys(api.MaxPapers) {
		p := paper(key, "main")
		p.Authors, p.Topics = keys(api.MaxAuthors), keys(api.MaxTopics)
		x.papers = append(x.papers, p)
	}
	for i := range api.MaxReplies {
		x.replies = append(x.replies, api.Reply{Paper: "k0000", At: i, Words: strings.Repeat("a\n", api.MaxReply/2)})
	}
	for i := range api.MaxPosts {
		x.posts = append(x.posts, api.Post{No: i + 1, At: i, Paper: "k0000", Person: "k0001", To: i, Words: strings.Repeat("a\n", api.MaxPost/2)})
	}
	x.board.Turns = []api.Turn{{Paper: "k0000", Open: true}}
	for i := 1; i < api.MaxTurns; i++ {
		x.board.Turns = append(x.board.Turns, api.Turn{Paper: "z", Open: i%2 == 1})
	}
	want := map[string]api.Errno{"Add": api.ErrFull, "Best": api.ErrRule, "Text": api.ErrLarge}
	for name, r := range x.results() {
		if e := r[len(r)-1]; e != want[name] {
			t.Error(name, e)
		}
	}
	// For each paper others must leave.
	var leave []api.Pair
	for i, paper := range keys(api.MaxPapers) {
		for j := range api.MaxPeople {
			leave = append(leave, pair(paper, fmt.Sprintf("k%09d", i+j*7)))
		}
	}
	order, moves, e := discuss.Greedy(keys(api.MaxPapers), leave)
	is(t, all(len(order), moves < 2*len(leave), e), all(api.MaxPapers, true, api.OK))
	leave = leave[:0]
	for i, paper := range keys(api.MaxExact) {
		for j := range api.MaxPapers * api.MaxPeople / api.MaxExact {
			leave = append(leave, pair(paper, fmt.Sprintf("k%09d", i+j*7)))
		}
	}
	order, moves, e = discuss.Best(keys(api.MaxExact), leave)
	is(t, all(len(order), moves < 2*len(leave), e), all(api.MaxExact, true, api.OK))
}
