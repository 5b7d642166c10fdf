package review_test

import (
	"fmt"
	"math"
	"reflect"
	"slices"
	"strings"
	"sync"
	"testing"

	"rebuttal/api"
	"rebuttal/review"
)

// inputs is all that a function can be given.
type inputs struct {
	s                    api.Setup
	l, other             []api.Review
	r                    api.Review
	who, paper, question string
	pair                 api.Pair
	at, many             int
	days                 []int
	a, b                 []api.Answer
	text                 string
}

// results calls every function, and returns what each one returns.
func (x inputs) results() map[string][]any {
	r := x.ofSetups()
	r["CheckSheet"] = all(review.CheckSheet(x.s.Sheet))
	r["Missing"] = pack(review.Missing(x.s.Sheet, x.a))
	r["Differ"] = pack(review.Differ(x.s.Sheet, x.a, x.b))
	r["TextSheet"] = pack(review.TextSheet(x.s.Sheet))
	r["ReadSheet"] = pack3(review.ReadSheet(x.text))
	return r
}

// ofSetups are the results of all functions with a setup.
func (x inputs) ofSetups() map[string][]any {
	r := x.ofReviews()
	r["CheckSetup"] = all(review.CheckSetup(x.s))
	r["Read"] = pack3(review.Read(x.s, x.text))
	return r
}

// ofReviews are the results of all functions with a setup and reviews.
func (x inputs) ofReviews() map[string][]any {
	return map[string][]any{
		"Check":   all(review.Check(x.s, x.l)),
		"Add":     pack(review.Add(x.s, x.l, x.r)),
		"Merge":   pack(review.Merge(x.s, x.l, x.other)),
		"Latest":  pack3(review.Latest(x.s, x.l, x.pair, x.at)),
		"Level":   pack(review.Level(x.s, x.l, x.who, x.pair, x.at)),
		"View":    pack(review.View(x.s, x.l, x.who, x.paper, x.at)),
		"Since":   pack(review.Since(x.s, x.l, x.who, x.pair)),
		"Stands":  pack(review.Stands(x.s, x.l, x.at)),
		"Nudges":  pack(review.Nudges(x.s, x.l, x.days, x.at)),
		"Full":    pack(review.Full(x.s, x.l, x.many, x.at)),
		"Marks":   pack(review.Marks(x.s, x.l, x.question, x.at)),
		"Options": pack(review.Options(x.s, x.l, x.question, x.paper, x.at)),
		"Helpers": pack(review.Helpers(x.s, x.l, x.at)),
		"Wrong":   pack(review.Wrong(x.s, x.l)),
		"Text":    pack(review.Text(x.s, x.l)),
	}
}

// odd is a number that is mostly small.
func (d *dice) odd(most int) int {
	if d.below(10) > 0 {
		return d.below(most)
	}
	l := []int{math.MinInt, -1, 0, most, api.End, math.MaxInt}
	return l[d.below(len(l))]
}

// inputs are some of which most are right.
func (d *dice) inputs(t *testing.T) inputs {
	x := inputs{s: d.setup(t), at: d.odd(26), many: d.odd(3)}
	x.s.Due, x.days = 2*api.DayLong+x.at%9, []int{2, d.odd(3)}
	x.l, x.other = d.reviews(t, x.s, 8), d.reviews(t, x.s, 8)
	x.a, x.b = d.answers(x.s.Sheet), d.answers(x.s.Sheet)
	x.who, x.paper, x.question = d.pick(append(somePeople, "x")), d.pick(someIds), d.pick([]string{"score", "fit", "note"})
	x.pair = pair(d.pick(someIds), d.pick(somePeople))
	if len(x.s.Pairs) > 0 && d.below(4) > 0 {
		x.pair = x.s.Pairs[d.below(len(x.s.Pairs))]
	}
	x.r = api.Review{At: 30, Paper: x.pair.Paper, Person: x.pair.Person, Done: d.below(2) == 0, Answers: x.a}
	x.text, _ = review.TextSheet(x.s.Sheet)
	if d.below(2) == 0 {
		x.text = plainText(x.other)
	}
	return x
}

// spoiled has one thing that is wrong, or may be.
func (x inputs) spoiled(d *dice) inputs {
	words := []string{"", "A", "\xff", "a b", "a", "p", strings.Repeat("z", 200_000)}
	p := pair(d.pick(words), d.pick(words))
	answer := api.Answer{Question: d.pick(append(words, "score", "sure")), Number: d.odd(5), Option: d.pick(words), Words: d.pick(words)}
	switch d.below(14) {
	case 0:
		x.s.Sheet = append(x.s.Sheet, api.Question{Key: d.pick(words), Kind: d.odd(5), Most: d.odd(9), Options: words[:d.below(3)]})
	case 1:
		x.s.Papers = append(x.s.Papers, paper(d.pick(words), d.pick(words)))
	case 2:
		x.s.Pairs = append(x.s.Pairs, p)
	case 3:
		x.s.Barred = append(x.s.Barred, p)
	case 4:
		x.s.Chairs = append(x.s.Chairs, d.pick(words))
	case 5:
		x.s.Due, x.s.Reply = d.odd(9), d.odd(9)
	case 6:
		x.l = append(x.l, api.Review{No: d.odd(9), At: d.odd(30), Paper: p.Paper, Person: p.Person, By: d.pick(words), Answers: []api.Answer{answer}})
	case 7:
		x.other = append(x.other, api.Review{})
	case 8:
		x.r.At, x.r.By = d.odd(9), d.pick(words)
	case 9:
		x.a = append(x.a, answer)
	case 10:
		x.b = append(x.b, answer)
	case 11:
		x.who, x.paper, x.question, x.pair = d.pick(words), d.pick(words), d.pick(words), p
	case 12:
		x.text += d.pick(words) + d.pick([]string{"", "\n"})
	case 13:
		x.days = append(x.days, d.odd(3))
	}
	return x
}

// memories are the arrays of all lists in a value, also what is behind their length.
func memories(v reflect.Value) [][2]uintptr {
	var l [][2]uintptr
	switch v.Kind() {
	case reflect.Interface:
		return memories(v.Elem())
	case reflect.Struct:
		for i := range v.NumField() {
			l = append(l, memories(v.Field(i))...)
		}
	case reflect.Slice:
		if v.Cap() > 0 {
			from := v.Pointer()
			l = append(l, [2]uintptr{from, from + uintptr(v.Cap())*v.Type().Elem().Size()})
		}
		for i := range v.Len() {
			l = append(l, memories(v.Index(i))...)
		}
	}
	return l
}

// whole is a value with its lists as long as their memory.
func whole(v reflect.Value) any {
	var l []any
	switch v.Kind() {
	case reflect.Struct:
		for i := range v.NumField() {
			l = append(l, whole(v.Field(i)))
		}
	case reflect.Slice:
		for i := range v.Cap() {
			l = append(l, whole(v.Slice(0, v.Cap()).Index(i)))
		}
	default:
		return fmt.Sprint(v)
	}
	return l
}

// roomy has lists with something behind their length.
func roomy[T any](l []T) []T { return slices.Grow(slices.Clone(l), 3)[:len(l)] }

func roomyReviews(l []api.Review) []api.Review {
	l = roomy(l)
	for i := range l {
		l[i].Answers = roomy(l[i].Answers)
	}
	return l
}

func (x inputs) roomy() inputs {
	x.s.Sheet, x.s.Papers, x.s.Pairs, x.s.Barred, x.s.Chairs = roomy(x.s.Sheet), roomy(x.s.Papers), roomy(x.s.Pairs), roomy(x.s.Barred), roomy(x.s.Chairs)
	for i := range x.s.Sheet {
		x.s.Sheet[i].Options = roomy(x.s.Sheet[i].Options)
	}
	for i := range x.s.Papers {
		x.s.Papers[i].Authors = roomy(x.s.Papers[i].Authors)
	}
	x.l, x.other, x.days, x.a, x.b = roomyReviews(x.l), roomyReviews(x.other), roomy(x.days), roomy(x.a), roomy(x.b)
	x.r.Answers = roomy(x.r.Answers)
	return x
}

// Z1, Z2, Z7: nothing panics, arguments stay as they are, the same ones give the same results, and these are new memory, also with respect to each other.
func TestMemory(t *testing.T) {
	d := dice(41)
	for range 800 {
		x := d.inputs(t).roomy()
		if d.below(2) == 0 {
			x = x.spoiled(&d)
		}
		before := fmt.Sprint(whole(reflect.ValueOf(x)))
		results := x.results()
		is(t, fmt.Sprint(whole(reflect.ValueOf(x))) == before, true)
		given := memories(reflect.ValueOf(x))
		for name, r := range results {
			l := memories(reflect.ValueOf(r))[1:]
			for i, a := range l {
				for _, b := range slices.Concat(l[:i], given) {
					if a[0] < b[1] && b[0] < a[1] {
						t.Errorf("%s: memory of a result is there twice", name)
					}
				}
			}
		}
		is(t, show(x.results()), show(results))
	}
}

// Z3: with an error, or without a review, there is nothing else, but for the number of a line.
func TestZeroValues(t *testing.T) {
	d := dice(43)
	failed, right := map[string]bool{}, map[string]bool{}
	for range 3000 {
		for name, r := range d.inputs(t).spoiled(&d).results() {
			e := r[len(r)-1]
			if e == api.OK {
				right[name] = true
			} else {
				failed[name] = true
			}
			none := name == "Latest" && r[1] == false
			for i, v := range r[:len(r)-1] {
				v := reflect.ValueOf(v)
				empty := v.IsZero() || v.Kind() == reflect.Slice && v.Len() == 0
				line := strings.HasPrefix(name, "Read") && i == 1 && e == api.ErrSyntax
				if !empty && !line && (e != api.OK || none) {
					t.Error(name, show(r))
				}
			}
		}
	}
	is(t, all(len(failed), len(right)), all(22, 22))
}

// Z5: empty lists are as nil ones.
func TestEmptyLists(t *testing.T) {
	x := inputs{s: example(), who: "gus", paper: "p", question: "fit", pair: pair("p", "bob"), r: api.Review{Paper: "p", Person: "bob"}}
	x.l = reviews("5 p bob - draft")
	y := x
	y.s = example()
	for i := range y.s.Papers {
		y.s.Papers[i].Topics = []string{}
	}
	for i := range y.s.Sheet {
		y.s.Sheet[i].Options = append([]string{}, y.s.Sheet[i].Options...)
	}
	y.l, y.other, y.days, y.a, y.b, y.r.Answers = reviews("5 p bob - draft"), []api.Review{}, []int{}, []api.Answer{}, []api.Answer{}, []api.Answer{}
	y.l[0].Answers = []api.Answer{}
	is(t, show(y.results()), show(x.results()))
	x.s, x.l = api.Setup{Sheet: sheet()}, nil
	y.s, y.l = api.Setup{Sheet: sheet(), Papers: []api.Paper{}, Pairs: []api.Pair{}, Barred: []api.Pair{}, Chairs: []string{}}, []api.Review{}
	is(t, show(y.results()), show(x.results()))
	x.s.Sheet, y.s.Sheet = nil, []api.Question{}
	is(t, show(y.results()), show(x.results()))
}

// Z1: any number of goroutines at once.
func TestAtOnce(t *testing.T) {
	d := dice(47)
	for range 20 {
		x := d.inputs(t)
		want := show(x.results())
		var group sync.WaitGroup
		for range 4 {
			group.Go(func() { is(t, show(x.results()), want) })
		}
		group.Wait()
	}
}

// greatest has as much as there can be, but for the bytes of Words.
func greatest(words string) inputs {
	x := inputs{s: greatestSetup(), who: "x", paper: "k0000", question: "k0000", pair: pair("k0000", "k0000"), at: last, days: make([]int, api.MaxNudges)}
	for i, q := range x.s.Sheet {
		x.s.Sheet[i] = api.Question{Key: q.Key, Kind: api.QuestWords, Most: api.MaxWords, Needed: true}
		x.a = append(x.a, api.Answer{Question: q.Key, Words: words})
	}
	for i := range api.MaxReviews {
		x.l = append(x.l, api.Review{No: i + 1, Paper: "k0000", Person: fmt.Sprintf("k%04d", i%api.MaxPeople), Done: true, Answers: x.a})
	}
	x.b, x.r, x.other = x.a, x.l[0], x.l
	return x
}

// Z1: the greatest arguments come to an end.
func TestGreatest(t *testing.T) {
	want := map[string]api.Errno{"Add": api.ErrFull, "Since": api.ErrNone, "Marks": api.ErrType, "Options": api.ErrType, "Text": api.ErrLarge, "ReadSheet": api.ErrForm}
	for name, r := range greatest("a\n").results() {
		if e := r[len(r)-1]; e != want[name] {
			t.Error(name, e)
		}
	}
	x := greatest(strings.Repeat("a\n", api.MaxWords/2))
	l, e := review.Merge(x.s, x.l, x.l)
	is(t, all(len(l), e), all(api.MaxPeople, api.OK))
}
