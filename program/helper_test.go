package program_test

import (
	"fmt"
	"math"
	"slices"
	"strconv"
	"strings"
	"testing"

	"rebuttal/api"
	"rebuttal/program"
)

// show writes a value so that nil and empty lists are the same (Z5).
func show(v any) string {
	return strings.ReplaceAll(fmt.Sprintf("%#v", v), "(nil)", "{}")
}

func is(t *testing.T, got, want any) {
	t.Helper()
	if g, w := show(got), show(want); g != w {
		t.Errorf("got %.2000s, want %.2000s", g, w)
	}
}

// all makes a list of the results of a call.
func all(l ...any) []any { return l }

// pack makes a list of the two results of a call.
func pack[T any](v T, e api.Errno) []any { return all(v, e) }

// pack3 makes a list of the three results of a call.
func pack3[T, U any](v T, w U, e api.Errno) []any { return all(v, w, e) }

// rung is the error that a value has, and how it is put right.
type rung[T any] struct {
	want api.Errno
	fix  func(*T)
}

// climb puts right what is wrong with a value, one after the other, and asks for the error before each step.
func climb[T any](t *testing.T, x T, check func(T) api.Errno, rungs []rung[T]) {
	t.Helper()
	for i, r := range rungs {
		if e := check(x); e != r.want {
			t.Errorf("rung %d: got %d, want %d: %.300s", i, e, r.want, show(x))
		}
		r.fix(&x)
	}
	if e := check(x); e != api.OK {
		t.Errorf("at the end: got %d: %.300s", e, show(x))
	}
}

// at changes one element of a list.
func at[T any](i int, change func(*T)) func(*[]T) {
	return func(l *[]T) { change(&(*l)[i]) }
}

// badKeys are strings that are no keys.
var badKeys = []string{"", "A", "0", "-a", "_a", "a b", "a.", "ä", "a\n", "aB", "a\x00", strings.Repeat("k", api.MaxName+1)}

// keys are so many, in order.
func keys(n int) []string {
	l := []string{}
	for i := range n {
		l = append(l, fmt.Sprintf("k%04d", i))
	}
	return l
}

// list are the parts of a string between plus signs; none of `-`.
func list(s string) []string {
	if s == "-" {
		return nil
	}
	return strings.Split(s, "+")
}

func number(s string) int {
	n, err := strconv.Atoi(s)
	if err != nil {
		panic(err)
	}
	return n
}

// made makes an element of each line, of its words.
func made[T any](lines []string, element func([]string) T) []T {
	var l []T
	for _, line := range lines {
		l = append(l, element(strings.Fields(line)))
	}
	return l
}

// rooms have a key and seats.
func rooms(lines ...string) []api.Room {
	return made(lines, func(w []string) api.Room { return api.Room{Key: w[0], Seats: number(w[1])} })
}

// slots have a key, From and Long.
func slots(lines ...string) []api.Slot {
	return made(lines, func(w []string) api.Slot { return api.Slot{Key: w[0], From: number(w[1]), Long: number(w[2])} })
}

// talks have a paper, Long, speakers and topics.
func talks(lines ...string) []api.Talk {
	return made(lines, func(w []string) api.Talk {
		return api.Talk{Paper: w[0], Long: number(w[1]), Speakers: list(w[2]), Topics: list(w[3])}
	})
}

// wishes have a person and papers.
func wishes(lines ...string) []api.Wish {
	return made(lines, func(w []string) api.Wish { return api.Wish{Person: w[0], Papers: w[1:]} })
}

// bans have a person and a slot.
func bans(lines ...string) []api.Ban {
	return made(lines, func(w []string) api.Ban { return api.Ban{Person: w[0], Slot: w[1]} })
}

// chairs have a person and topics.
func chairs(lines ...string) []api.Chair {
	return made(lines, func(w []string) api.Chair { return api.Chair{Person: w[0], Topics: w[1:]} })
}

// sessions have a slot, a room and papers.
func sessions(lines ...string) []api.Session {
	return made(lines, func(w []string) api.Session { return api.Session{Slot: w[0], Room: w[1], Papers: w[2:]} })
}

// example has slots that follow each other (am, pm), one that lies across both (mid), and one far from all (zz).
func example() api.Grid {
	return api.Grid{
		Rooms: rooms("big 3", "tiny 1"),
		Slots: slots("am 100 60", "mid 140 40", "pm 160 60", "zz 900 30"),
		Talks: talks(
			"p 20 ann art",
			"q 20 bob art+cake",
			"r 30 ann+cid cake",
			"s 40 dee -",
			"t 30 eve art+tea",
			"u 60 fay tea",
		),
		Wishes: wishes("w p q", "x p q r", "y", "z p s t u"),
		Bans:   bans("bob pm", "dee am", "dee zz", "nil pm"),
	}
}

// some is a programme of the example.
func some() []api.Session {
	return sessions("am big p q", "mid tiny s", "pm big r t")
}

// greatest has as much as there can be.
func greatest() api.Grid {
	var g api.Grid
	for i, key := range keys(api.MaxSlots) {
		g.Slots = append(g.Slots, api.Slot{Key: key, From: i * api.DayLong, Long: api.DayLong})
	}
	for _, key := range keys(api.MaxRooms) {
		g.Rooms = append(g.Rooms, api.Room{Key: key, Seats: 1})
	}
	for i, key := range keys(api.MaxTalks) {
		talk := api.Talk{Paper: key, Topics: keys(api.MaxWanted), Long: 1}
		for j := range api.MaxAuthors {
			talk.Speakers = append(talk.Speakers, fmt.Sprintf("k%04d", i*api.MaxAuthors+j))
		}
		g.Talks = append(g.Talks, talk)
	}
	for _, key := range keys(api.MaxWishes) {
		g.Wishes = append(g.Wishes, api.Wish{Person: key, Papers: keys(api.MaxTalks)})
	}
	for i := range 500 {
		g.Bans = append(g.Bans, api.Ban{Person: "z", Slot: g.Slots[i%api.MaxSlots].Key})
		g.Bans[i].Person += fmt.Sprintf("%04d", i/api.MaxSlots)
	}
	return g
}

// spread is a programme of the greatest grid: each talk has a session of its own, and twenty are at one time.
func spread() []api.Session {
	var p []api.Session
	for i, key := range keys(api.MaxTalks) {
		p = append(p, api.Session{Slot: fmt.Sprintf("k%04d", i/api.MaxRooms), Room: fmt.Sprintf("k%04d", i%api.MaxRooms), Papers: []string{key}})
	}
	return p
}

// dice is a row of numbers that look thrown, and are the same each time.
type dice uint64

func (d *dice) below(n int) int {
	*d = *d*6364136223846793005 + 1442695040888963407
	return int(uint64(*d)>>33) % n
}

func (d *dice) pick(l []string) string { return l[d.below(len(l))] }

// some are those strings of a list to which one of so many dice says yes.
func (d *dice) some(l []string, rare int) []string {
	var some []string
	for _, s := range l {
		if d.below(rare) == 0 {
			some = append(some, s)
		}
	}
	return some
}

// odd is a number that is mostly small.
func (d *dice) odd(most int) int {
	if d.below(10) > 0 {
		return d.below(most)
	}
	l := []int{math.MinInt, -1, 0, most, api.End, math.MaxInt}
	return l[d.below(len(l))]
}

var (
	someRooms  = []string{"a", "b", "c"}
	someSlots  = []string{"i", "j", "k", "l"}
	somePapers = []string{"p", "q", "r", "s", "t", "u", "v"}
	somePeople = []string{"ann", "bob", "cid", "dee", "eve", "fay"}
	someTopics = []string{"art", "cake", "tea"}
)

// many is from 1 to a number, and seldom 0.
func (d *dice) many(most int) int {
	if d.below(15) == 0 {
		return 0
	}
	return 1 + d.below(most)
}

// grid has up to so many talks, slots and rooms; there are often too few minutes, seats and free speakers.
func (d *dice) grid(t *testing.T, talks, slots, rooms int) api.Grid {
	t.Helper()
	var g api.Grid
	for _, key := range someRooms[:d.many(rooms)] {
		g.Rooms = append(g.Rooms, api.Room{Key: key, Seats: 1 + d.below(3)})
	}
	for _, key := range someSlots[:d.many(slots)] {
		g.Slots = append(g.Slots, api.Slot{Key: key, From: d.below(4) * 5, Long: 5 + d.below(8)})
	}
	for _, key := range somePapers[:d.many(talks)] {
		talk := api.Talk{Paper: key, Speakers: d.some(somePeople, 4), Topics: d.some(someTopics, 2), Long: 1 + d.below(7)}
		if len(talk.Speakers) == 0 {
			talk.Speakers = []string{d.pick(somePeople)}
		}
		g.Talks = append(g.Talks, talk)
	}
	var papers []string
	for _, x := range g.Talks {
		papers = append(papers, x.Paper)
	}
	for _, person := range d.some(somePeople, 2) {
		g.Wishes = append(g.Wishes, api.Wish{Person: person, Papers: d.some(papers, 2)})
	}
	for _, person := range somePeople {
		for _, s := range g.Slots {
			if d.below(12) == 0 {
				g.Bans = append(g.Bans, api.Ban{Person: person, Slot: s.Key})
			}
		}
	}
	is(t, program.CheckGrid(g), api.OK)
	return g
}

// programme has as many of the talks as find a place at a few attempts.
func (d *dice) programme(t *testing.T, g api.Grid) []api.Session {
	t.Helper()
	var p []api.Session
	tries := d.below(4)
	for _, x := range shuffled(d, g.Talks) {
		for range tries {
			if len(g.Slots) == 0 || len(g.Rooms) == 0 {
				break
			}
			slot, room := g.Slots[d.below(len(g.Slots))].Key, g.Rooms[d.below(len(g.Rooms))].Key
			if next := plainPut(p, x.Paper, slot, room, -1); plainCheck(g, next) == api.OK {
				p = next
				break
			}
		}
	}
	is(t, program.Check(g, p), api.OK)
	return p
}

// shuffled are elements in any order.
func shuffled[T any](d *dice, l []T) []T {
	l = slices.Clone(l)
	for i := range l {
		j := d.below(i + 1)
		l[i], l[j] = l[j], l[i]
	}
	return l
}

// The plain versions: what the document says, word for word.

func plainSlot(g api.Grid, key string) (api.Slot, bool) {
	for _, s := range g.Slots {
		if s.Key == key {
			return s, true
		}
	}
	return api.Slot{}, false
}

func plainRoom(g api.Grid, key string) (api.Room, bool) {
	for _, r := range g.Rooms {
		if r.Key == key {
			return r, true
		}
	}
	return api.Room{}, false
}

func plainTalk(g api.Grid, paper string) (api.Talk, bool) {
	for _, x := range g.Talks {
		if x.Paper == paper {
			return x, true
		}
	}
	return api.Talk{}, false
}

// plainOverlap reports whether two sessions have a minute in common.
func plainOverlap(g api.Grid, a, b api.Session) bool {
	x, _ := plainSlot(g, a.Slot)
	y, _ := plainSlot(g, b.Slot)
	return max(x.From, y.From) < min(x.From+x.Long, y.From+y.Long)
}

func share(a, b []string) bool {
	for _, s := range a {
		if slices.Contains(b, s) {
			return true
		}
	}
	return false
}

// plainSpeakers are those of all talks of a session.
func plainSpeakers(g api.Grid, s api.Session) []string {
	var l []string
	for _, paper := range s.Papers {
		talk, _ := plainTalk(g, paper)
		l = append(l, talk.Speakers...)
	}
	return l
}

func plainCheck(g api.Grid, p []api.Session) api.Errno {
	if len(p) > 800 {
		return api.ErrLarge
	}
	there := map[string]bool{}
	for i, s := range p {
		if e := plainSession(g, p[:i], s, there); e != api.OK {
			return e
		}
	}
	for i, s := range p {
		for _, other := range p[:i] {
			if plainOverlap(g, s, other) && (s.Room == other.Room || share(plainSpeakers(g, s), plainSpeakers(g, other))) {
				return api.ErrConflict
			}
		}
		for _, person := range plainSpeakers(g, s) {
			if slices.Contains(g.Bans, api.Ban{Person: person, Slot: s.Slot}) {
				return api.ErrState
			}
		}
	}
	return api.OK
}

// plainSession validates a session that comes behind others.
func plainSession(g api.Grid, before []api.Session, s api.Session, there map[string]bool) api.Errno {
	slot, knownSlot := plainSlot(g, s.Slot)
	_, knownRoom := plainRoom(g, s.Room)
	if !knownSlot || !knownRoom {
		return api.ErrNone
	}
	if len(before) > 0 {
		if last := before[len(before)-1]; s.Slot < last.Slot || s.Slot == last.Slot && s.Room <= last.Room {
			return api.ErrOrder
		}
	}
	if len(s.Papers) == 0 {
		return api.ErrForm
	}
	long := 0
	for _, paper := range s.Papers {
		talk, known := plainTalk(g, paper)
		if !known {
			return api.ErrNone
		}
		if there[paper] {
			return api.ErrTwice
		}
		there[paper] = true
		long += talk.Long
	}
	if long > slot.Long {
		return api.ErrFull
	}
	return api.OK
}

// plainTake is a programme without a paper.
func plainTake(p []api.Session, paper string) []api.Session {
	var next []api.Session
	for _, s := range p {
		s.Papers = slices.DeleteFunc(slices.Clone(s.Papers), func(other string) bool { return other == paper })
		if len(s.Papers) > 0 {
			next = append(next, s)
		}
	}
	return next
}

// plainPut is a programme with a paper that it does not have, before number at of a session; at the end, if at is -1.
func plainPut(p []api.Session, paper, slot, room string, at int) []api.Session {
	next := plainTake(p, "")
	for i, s := range next {
		if s.Slot == slot && s.Room == room {
			if at < 0 {
				at = len(s.Papers)
			}
			next[i].Papers = slices.Insert(s.Papers, at, paper)
			return next
		}
	}
	next = append(next, api.Session{Slot: slot, Room: room, Papers: []string{paper}})
	slices.SortFunc(next, func(a, b api.Session) int { return strings.Compare(a.Slot+" "+a.Room, b.Slot+" "+b.Room) })
	return next
}

// plainWhere is the session of a paper, and its number there.
func plainWhere(p []api.Session, paper string) (api.Session, int) {
	for _, s := range p {
		if i := slices.Index(s.Papers, paper); i >= 0 {
			return s, i
		}
	}
	return api.Session{}, -1
}
