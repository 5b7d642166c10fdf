package submit_test

import (
	"math"
	"slices"
	"strings"
	"sync"
	"testing"

	"rebuttal/api"
	"rebuttal/submit"
)

// inputs is all that a function can be given.
type inputs struct {
	paper    api.Paper
	papers   []api.Paper
	call     api.Call
	arrivals []api.Arrival
	id       string
	kind, at int
	form     api.Form
	names    []string
	homes    []string
	text     string
	other    string
	gives    []api.Give
	least    int
	drafts   []api.Draft
	percent  int
}

// results calls every function, and returns what each one returns.
func (x inputs) results() map[string][]any {
	a := api.Arrival{}
	if len(x.arrivals) > 0 {
		a = x.arrivals[0]
	}
	words, lines, e := submit.Length(x.text)
	r := map[string][]any{
		"CheckPaper":   all(submit.CheckPaper(x.paper)),
		"CheckPapers":  all(submit.CheckPapers(x.papers)),
		"CheckCall":    all(submit.CheckCall(x.call)),
		"Deadline":     pack(submit.Deadline(x.call, x.kind, x.id)),
		"CheckArrival": all(submit.CheckArrival(a)),
		"Counts":       pack(submit.Counts(x.call, a)),
		"State":        pack(submit.State(x.call, x.arrivals, x.id, x.at)),
		"States":       pack(submit.States(x.call, x.arrivals, x.at)),
		"Moments":      pack(submit.Moments(x.call, x.arrivals, x.id)),
		"Words":        all(submit.Words(x.text), api.OK),
		"Length":       all([]int{words, lines}[:min(words+lines, 2)], e),
		"Sections":     pack(submit.Sections(x.text)),
		"CheckForm":    all(submit.CheckForm(x.form)),
		"Fits":         pack(submit.Fits(x.form, x.text)),
		"Initials":     pack(submit.Initials(x.id)),
		"Anonymity":    pack(submit.Anonymity(x.names, x.homes, x.text)),
		"Cover":        pack(submit.Cover(x.text, x.gives)),
		"Runs":         pack(submit.Runs(x.text, x.other, x.least)),
		"Overlap":      pack(submit.Overlap(x.text, x.other, x.least)),
		"Alike":        pack(submit.Alike(x.drafts, x.least, x.percent)),
	}
	x.boxes(r)
	return r
}

// boxes calls the methods of a box.
func (x inputs) boxes(r map[string][]any) {
	b, e := submit.NewBox(x.call)
	if e != api.OK {
		return
	}
	for _, a := range x.arrivals {
		r["Put"] = pack(b.Put(a))
	}
	r["Arrivals"] = all(b.Arrivals(), api.OK)
	r["Entries"] = pack(b.Entries(x.at))
	o, _ := submit.NewBox(narrow())
	r["Join"] = pack(b.Join(o))
}

func pack[T any](v T, e api.Errno) []any { return all(v, e) }

// number is one that is mostly small.
func (d *dice) number(most int) int {
	if d.below(12) > 0 {
		return d.below(most)
	}
	odd := []int{math.MinInt, -1, 0, most, api.End, api.MaxBody + 1, math.MaxInt}
	return odd[d.below(len(odd))]
}

func (d *dice) list(n int, of []string) []string {
	l := []string{}
	for range d.below(n + 1) {
		l = append(l, d.pick(of))
	}
	return l
}

// inputs are some of which most are right.
func (d *dice) inputs() inputs {
	ids := []string{"p", "q", "r", "k", "ill", "ann", "", "A", "\xff", "a b"}
	names := []string{"Ann Lee", "A", "É L", "a b c d e f", "our", "Ulm", ".", " "}
	text := func() string {
		if d.below(10) == 0 {
			return d.pick(badTexts)
		}
		return d.text(20, slices.Concat(pieces, []string{"# A\n", "## B\n", "\n### c\n"}))
	}
	x := inputs{call: narrow(), arrivals: d.arrivals(), id: d.pick(ids), kind: d.number(4), at: d.number(130), text: text(), other: text(), least: d.number(9), percent: d.number(101)}
	x.paper = api.Paper{Id: d.pick(ids), Track: d.pick(ids), Title: d.pick(names), Authors: d.list(3, ids), Topics: d.list(3, ids)}
	x.papers = []api.Paper{paper(), x.paper}
	x.form = api.Form{Least: d.number(20), Most: 20 + d.number(20), Lines: d.number(9), Must: d.list(2, []string{"a", "b", "c", "A"}), Deep: d.number(5)}
	x.names, x.homes = d.list(4, names[:6+d.below(3)]), d.list(4, names[:6+d.below(3)])
	for range d.below(5) {
		from := d.number(len(x.text) + 1)
		x.gives = append(x.gives, api.Give{Span: api.Span{From: from, To: from + d.number(9)}})
	}
	for i := range d.below(4) {
		x.drafts = append(x.drafts, api.Draft{Id: ids[i], Text: text()})
	}
	switch d.below(12) {
	case 0:
		x.call.Reasons[0].Key = d.pick(ids)
	case 1:
		x.call.Abstract = d.number(60)
	case 2:
		x.arrivals = append(x.arrivals, api.Arrival{Paper: d.pick(ids), At: d.number(130), Kind: d.number(4), Reason: d.pick(ids), Text: text()})
	}
	return x
}

// roomy are inputs whose lists have something behind their length.
func (x inputs) roomy() inputs {
	x.papers = append(x.papers, api.Paper{Id: "junk"})[:len(x.papers)]
	x.paper.Authors = append(x.paper.Authors, "junk")[:len(x.paper.Authors)]
	x.paper.Topics = append(x.paper.Topics, "junk")[:len(x.paper.Topics)]
	x.call.Reasons = append(x.call.Reasons, api.Reason{Key: "junk"})[:len(x.call.Reasons)]
	x.arrivals = append(x.arrivals, api.Arrival{Paper: "junk"})[:len(x.arrivals)]
	x.form.Must = append(x.form.Must, "junk")[:len(x.form.Must)]
	x.names = append(x.names, "junk")[:len(x.names)]
	x.homes = append(x.homes, "junk")[:len(x.homes)]
	x.gives = append(x.gives, api.Give{Who: "junk"})[:len(x.gives)]
	x.drafts = append(x.drafts, api.Draft{Id: "junk"})[:len(x.drafts)]
	return x
}

// behind shows inputs with what is behind the length of their lists.
func (x inputs) behind() string {
	return show(all(x, x.papers[:cap(x.papers)], x.paper.Authors[:cap(x.paper.Authors)], x.paper.Topics[:cap(x.paper.Topics)], x.call.Reasons[:cap(x.call.Reasons)],
		x.arrivals[:cap(x.arrivals)], x.form.Must[:cap(x.form.Must)], x.names[:cap(x.names)], x.homes[:cap(x.homes)], x.gives[:cap(x.gives)], x.drafts[:cap(x.drafts)]))
}

// Z1, Z2, Z7: nothing panics, arguments stay as they are, and the same ones give the same results.
func TestArgumentsStay(t *testing.T) {
	d := dice(41)
	for range 1500 {
		x := d.inputs().roomy()
		before := x.behind()
		results := show(x.results())
		is(t, x.behind(), before)
		is(t, show(x.results()), results)
	}
}

// Z3: with an error there is nothing else.
func TestZeroValues(t *testing.T) {
	d := dice(43)
	failed := map[string]bool{}
	for range 3000 {
		for name, r := range d.inputs().results() {
			if len(r) < 2 || r[1] == api.OK {
				continue
			}
			failed[name] = true
			zero := []string{"0", "false", `""`, "[]int{}", show(api.Entry{}), show([]api.Entry{}), show([]api.Section{}), show([]api.Fault{}), show([]api.Give{}), show([]api.Run{}), show(api.Fraction{}), show([]api.Twins{})}
			if !slices.Contains(zero, show(r[0])) {
				t.Error(name, show(r))
			}
		}
	}
	for _, name := range []string{"Deadline", "Counts", "State", "States", "Moments", "Length", "Sections", "Fits", "Initials", "Anonymity", "Cover", "Runs", "Overlap", "Alike", "Put", "Entries", "Join"} {
		if !failed[name] {
			t.Error(name, "never fails")
		}
	}
}

// Z5: empty lists are as nil ones.
func TestEmptyLists(t *testing.T) {
	x := inputs{paper: paper(), call: api.Call{Abstract: 1, Full: 1}, id: "p", kind: 1, form: form(), text: "# A\nour prior\n", least: 1, percent: 1}
	y := x
	y.call.Reasons, y.arrivals, y.form.Must, y.names, y.homes, y.gives, y.drafts, y.papers = []api.Reason{}, []api.Arrival{}, []string{}, []string{}, []string{}, []api.Give{}, []api.Draft{}, []api.Paper{}
	is(t, show(x.results()), show(y.results()))
	x.paper.Authors = []string{}
	is(t, submit.CheckPaper(x.paper), api.ErrNone)
}

// Z1: any number of goroutines at once.
func TestAtOnce(t *testing.T) {
	d := dice(47)
	for range 20 {
		x := d.inputs()
		want := show(x.results())
		var group sync.WaitGroup
		for range 4 {
			group.Go(func() { is(t, show(x.results()), want) })
		}
		group.Wait()
	}
}

// Z1: the greatest arguments come to an end.
func TestGreatest(t *testing.T) {
	var drafts []api.Draft
	for _, k := range keys(api.MaxDrafts) {
		drafts = append(drafts, api.Draft{Id: k, Text: words(api.MaxRunWords, "a")})
	}
	l, e := submit.Alike(drafts, 1, 100)
	is(t, all(len(l), e), all(api.MaxDrafts*(api.MaxDrafts-1)/2, api.OK))
	text := strings.Repeat("a ", api.MaxBody/2-1) + "a\n"
	var names, homes []string
	for i := range 50 {
		homes = append(homes, "a a a a a a"+strings.Repeat(".", i))
	}
	names = homes[:api.MaxAuthors]
	gives, e := submit.Anonymity(names, homes, text)
	is(t, all(len(gives), e), all(70*(api.MaxBody/2-5), api.OK))
	long := slices.Repeat([]api.Give{{Span: api.Span{From: 0, To: api.MaxBody}}}, 200_000)
	s, e := submit.Cover(text, long)
	is(t, all(s == strings.ReplaceAll(text, "a", "x"), e), all(true, api.OK))
	is(t, len(submit.Words(strings.Repeat("a,", 100_000))), 100_000)
	ours, e := submit.Anonymity(nil, nil, strings.Repeat("we prior ", 2_000)+"\n")
	is(t, all(len(ours), e), all(3*2_000-3, api.OK))
}
