package discuss_test

import (
	"fmt"
	"math"
	"math/big"
	"slices"
	"strings"
	"testing"

	"rebuttal/api"
	"rebuttal/discuss"
)

func by(floor int, crits ...int) api.DecideRules { return api.DecideRules{By: crits, Floor: floor} }

// everything are all that papers are compared by.
func everything() []int {
	return []int{api.CritMean, api.CritLeast, api.CritGreatest, api.CritMany, api.CritMiddle}
}

// P7.5: which paper is better.
func TestOrder(t *testing.T) {
	l := marks("p 5 6 9", "q 3 10 7", "r 7", "s 7 7 4 9", "u 0", "v 6 9 5")
	for _, c := range []struct {
		crit  int
		order string // groups of equal ones, the best group first
	}{
		{api.CritMean, "r s pqv u no"}, // 7, 27/4, 20/3, 0, -1
		{api.CritLeast, "r pv s q u no"},
		{api.CritGreatest, "q psv r u no"},
		{api.CritMany, "s pqv ru no"},
		{api.CritMiddle, "qrs pv u no"},
	} {
		groups := strings.Fields(c.order)
		for i, group := range groups {
			for j, other := range groups {
				for _, a := range letters(group) {
					for _, b := range letters(other) {
						want := sign(i - j)
						if i == j {
							want = strings.Compare(a, b)
						}
						is(t, all(c.crit, a, b, pack(discuss.Order(by(0, c.crit), l, a, b))), all(c.crit, a, b, all(want, api.OK)))
					}
				}
			}
		}
	}
	// The first one of By that differs counts.
	for _, c := range []struct {
		crits []int
		want  int
	}{
		{[]int{api.CritMany, api.CritMean}, 1},
		{[]int{api.CritMean, api.CritMany}, 1},
		{[]int{api.CritMany, api.CritLeast}, 1},
		{[]int{api.CritMany, api.CritGreatest, api.CritLeast}, -1},
		{[]int{api.CritMean, api.CritMiddle}, 1},
	} {
		is(t, pack(discuss.Order(by(0, c.crits...), marks("p 2 4 9", "q 5 5 6"), "p", "q")), all(c.want, api.OK))
	}
	is(t, pack(discuss.Order(by(0, api.CritMany, api.CritMean), marks("p 5 5", "q 4 6"), "p", "q")), all(-1, api.OK))
	is(t, pack(discuss.Order(by(0, everything()...), nil, "p", "p")), all(0, api.OK))
	is(t, pack(discuss.Order(by(100, everything()...), marks("p 1"), "p", "p")), all(0, api.OK))
}

func sign(n int) int {
	switch {
	case n < 0:
		return -1
	case n > 0:
		return 1
	}
	return 0
}

// plainValue is what a paper has by a criterion.
func plainValue(crit int, s []int) *big.Rat {
	s = slices.Sorted(slices.Values(s))
	n := len(s)
	switch {
	case crit == api.CritMany:
		return big.NewRat(int64(n), 1)
	case n == 0:
		return big.NewRat(-1, 1)
	case crit == api.CritMean:
		return plainMean(s)
	}
	place := map[int]int{api.CritLeast: 0, api.CritGreatest: n - 1, api.CritMiddle: (n - 1) / 2}
	return big.NewRat(int64(s[place[crit]]), 1)
}

func plainBetter(r api.DecideRules, l []api.Mark, a, b string) bool {
	for _, crit := range r.By {
		if order := plainValue(crit, scores(l, a)).Cmp(plainValue(crit, scores(l, b))); order != 0 {
			return order > 0
		}
	}
	return a < b
}

// decideRules are right ones.
func (d *dice) decideRules() api.DecideRules {
	return by(d.below(101)*d.below(2), shuffled(d, everything())[:1+d.below(5)]...)
}

// P7.5: Order, compared with a plain version.
func TestOrderPlainly(t *testing.T) {
	d := dice(19)
	for range 500 {
		r, l := d.decideRules(), d.marks(t)
		a, b := d.pick(somePapers), d.pick(somePapers)
		want := 0
		if plainBetter(r, l, a, b) {
			want = -1
		} else if a != b {
			want = 1
		}
		is(t, pack(discuss.Order(r, l, a, b)), all(want, api.OK))
	}
}

// ruling is what functions with rules are given.
type ruling struct {
	r      api.DecideRules
	quotas []api.Quota
	papers []api.Paper
	l      []api.Mark
	a, b   string
}

// P7.5: the errors of Order, in order.
func TestOrderErrors(t *testing.T) {
	check := func(x ruling) api.Errno {
		n, e := discuss.Order(x.r, x.l, x.a, x.b)
		is(t, e == api.OK || n == 0, true)
		return e
	}
	climb(t, ruling{r: api.DecideRules{Floor: -1}, l: marks("P 11"), a: "A"}, check, []rung[ruling]{
		{api.ErrForm, func(x *ruling) { x.r.By = []int{6, 6} }},
		{api.ErrKind, func(x *ruling) { x.r.By = []int{5, 0, 5} }},
		{api.ErrKind, func(x *ruling) { x.r.By = []int{5, math.MaxInt} }},
		{api.ErrKind, func(x *ruling) { x.r.By = []int{math.MinInt} }},
		{api.ErrKind, func(x *ruling) { x.r.By = []int{1, 2, 1, 0} }},
		{api.ErrTwice, func(x *ruling) { x.r.By = slices.Repeat([]int{3}, 1000) }},
		{api.ErrTwice, func(x *ruling) { x.r.By = []int{5, 4, 3, 2, 1} }},
		{api.ErrArg, func(x *ruling) { x.r.Floor = 101 }},
		{api.ErrArg, func(x *ruling) { x.r.Floor = math.MaxInt }},
		{api.ErrArg, func(x *ruling) { x.r.Floor = math.MinInt }},
		{api.ErrArg, func(x *ruling) { x.r.Floor = 100 }},
		{api.ErrName, func(x *ruling) { x.l = marks("p 11") }},
		{api.ErrArg, func(x *ruling) { x.l = marks("p 1") }},
		{api.ErrName, func(x *ruling) { x.a = "a" }},
		{api.ErrName, func(x *ruling) { x.a, x.b = "A", "b" }},
		{api.ErrName, func(x *ruling) { x.a = "a" }},
	})
	for _, key := range badKeys {
		is(t, check(ruling{r: by(0, 1), a: key, b: "b"}), api.ErrName)
		is(t, check(ruling{r: by(0, 1), a: "a", b: key}), api.ErrName)
	}
	for want, l := range wrongMarks() {
		is(t, check(ruling{r: by(0, 1), l: l}), want)
	}
}

// decisions are papers with their rank, and an exclamation mark if they are taken.
func decisions(words ...string) []api.Decision {
	var l []api.Decision
	for _, w := range words {
		id, rank, _ := strings.Cut(w, "=")
		rank, yes := strings.CutSuffix(rank, "!")
		l = append(l, api.Decision{Paper: id, Yes: yes, Rank: number(rank)})
	}
	return l
}

// P7.6: what becomes of papers.
func TestDecide(t *testing.T) {
	l := marks("a 9 8", "b 7 7", "c 4 8", "d 6 6", "f 3", "g 9", "h 5 5 6", "zz 10")
	some := papers("a/main", "b/main", "c/main", "d/main", "e/main", "f/poster", "g/poster", "h/demo")
	for _, c := range []struct {
		r      api.DecideRules
		quotas []api.Quota
		want   []api.Decision
		nearly []api.Pair
	}{
		{
			by(0, api.CritMean), nil,
			decisions("a=1", "b=2", "c=3", "d=4", "e=5", "f=2", "g=1", "h=1"), nil,
		},
		{
			by(0, api.CritMean, api.CritLeast),
			[]api.Quota{{Track: "demo", Most: 1}, {Track: "main", Most: 3}, {Track: "poster", Most: 1}, {Track: "talk", Most: 9}},
			decisions("a=1!", "b=2!", "c=4", "d=3!", "e=5", "f=2", "g=1!", "h=1!"), list("d c", "g f"),
		},
		{ // e has no marks
			by(0, api.CritGreatest),
			[]api.Quota{{Track: "main", Most: api.MaxPapers}, {Track: "poster"}},
			decisions("a=1!", "b=3!", "c=2!", "d=4!", "e=5", "f=2", "g=1", "h=1"), list("d e"),
		},
		{ // the floor is reached by 7, and not by 6; who is behind those who do not reach it can be taken
			by(70, api.CritGreatest),
			[]api.Quota{{Track: "main", Most: 3}},
			decisions("a=1!", "b=3!", "c=2", "d=4", "e=5", "f=2", "g=1", "h=1"), list("b c"),
		},
		{
			by(71, api.CritGreatest),
			[]api.Quota{{Track: "main", Most: 2}},
			decisions("a=1!", "b=3", "c=2", "d=4", "e=5", "f=2", "g=1", "h=1"), list("a c"),
		},
		{ // 16/3 is at least 53/10, and less than 54/10
			by(53, api.CritMean), []api.Quota{{Track: "demo", Most: 1}},
			decisions("a=1", "b=2", "c=3", "d=4", "e=5", "f=2", "g=1", "h=1!"), nil,
		},
		{
			by(54, api.CritMean), []api.Quota{{Track: "demo", Most: 1}},
			decisions("a=1", "b=2", "c=3", "d=4", "e=5", "f=2", "g=1", "h=1"), nil,
		},
		{
			by(100, api.CritMean), []api.Quota{{Track: "main", Most: 9}, {Track: "poster", Most: 9}},
			decisions("a=1", "b=2", "c=3", "d=4", "e=5", "f=2", "g=1", "h=1"), nil,
		},
	} {
		is(t, pack(discuss.Decide(c.r, c.quotas, some, l)), all(c.want, api.OK))
		is(t, pack(discuss.Nearly(c.r, c.quotas, some, l)), all(c.nearly, api.OK))
	}
	is(t, pack(discuss.Decide(by(0, 1), nil, nil, l)), all([]api.Decision{}, api.OK))
	is(t, pack(discuss.Nearly(by(0, 1), []api.Quota{{Track: "main", Most: 1}}, nil, l)), all([]api.Pair{}, api.OK))
}

// plainDecide counts the better papers of the track for each one.
func plainDecide(x ruling) []api.Decision {
	var l []api.Decision
	for _, p := range x.papers {
		d := api.Decision{Paper: p.Id, Rank: 1}
		for _, other := range x.papers {
			if other.Track == p.Track && other.Id != p.Id && plainBetter(x.r, x.l, other.Id, p.Id) {
				d.Rank++
			}
		}
		for _, q := range x.quotas {
			s := scores(x.l, p.Id)
			d.Yes = d.Yes || q.Track == p.Track && d.Rank <= q.Most && len(s) > 0 && tenTimes(plainMean(s), x.r.Floor) >= 0
		}
		l = append(l, d)
	}
	return l
}

// plainNearly looks for the worst rank that is taken, and the best one that is not.
func plainNearly(x ruling) []api.Pair {
	decided := plainDecide(x)
	var l []api.Pair
	for _, q := range x.quotas {
		worst, best := 0, math.MaxInt
		var near api.Pair
		for i, d := range decided {
			if x.papers[i].Track != q.Track {
				continue
			}
			if d.Yes && d.Rank > worst {
				worst, near.Paper = d.Rank, d.Paper
			}
			if !d.Yes && d.Rank < best {
				best, near.Person = d.Rank, d.Paper
			}
		}
		if near.Paper != "" && near.Person != "" {
			l = append(l, near)
		}
	}
	return l
}

// ruling has papers of few tracks, some of them without a quota.
func (d *dice) ruling(t *testing.T) ruling {
	x := ruling{r: d.decideRules(), l: d.marks(t)}
	for _, id := range d.some(somePapers, 1+d.below(2)) {
		x.papers = append(x.papers, paper(id, d.pick([]string{"demo", "main"})))
	}
	for _, track := range []string{"demo", "main", "talk"} {
		if d.below(4) > 0 {
			x.quotas = append(x.quotas, api.Quota{Track: track, Most: d.below(5)})
		}
	}
	return x
}

// P7.6: Decide and Nearly, compared with plain versions, and what follows of the promise.
func TestDecidePlainly(t *testing.T) {
	d := dice(23)
	for range 1000 {
		x := d.ruling(t)
		want := plainDecide(x)
		is(t, pack(discuss.Decide(x.r, x.quotas, x.papers, x.l)), all(want, api.OK))
		is(t, pack(discuss.Nearly(x.r, x.quotas, x.papers, x.l)), all(plainNearly(x), api.OK))
		// Marks of papers that are not decided change nothing.
		var known []api.Mark
		for _, m := range x.l {
			if slices.ContainsFunc(x.papers, func(p api.Paper) bool { return p.Id == m.Paper }) {
				known = append(known, m)
			}
		}
		is(t, pack(discuss.Decide(x.r, x.quotas, x.papers, known)), all(want, api.OK))
	}
}

// P7.6: the errors of Decide and Nearly, in order.
func TestDecideErrors(t *testing.T) {
	check := func(x ruling) api.Errno {
		decided, e := discuss.Decide(x.r, x.quotas, x.papers, x.l)
		nearly, same := discuss.Nearly(x.r, x.quotas, x.papers, x.l)
		is(t, all(same, e == api.OK || len(decided)+len(nearly) == 0), all(e, true))
		return e
	}
	quota := func(change func(*api.Quota)) func(*ruling) {
		return func(x *ruling) { change(&x.quotas[1]) }
	}
	first := func(change func(*api.Paper)) func(*ruling) {
		return func(x *ruling) { change(&x.papers[0]) }
	}
	x := ruling{r: api.DecideRules{Floor: -1}, quotas: make([]api.Quota, api.MaxQuotas+1), papers: make([]api.Paper, api.MaxPapers+1), l: marks("P 11")}
	climb(t, x, check, []rung[ruling]{
		{api.ErrForm, func(x *ruling) { x.r.By = []int{1, 6} }},
		{api.ErrKind, func(x *ruling) { x.r.By = []int{2, 2} }},
		{api.ErrTwice, func(x *ruling) { x.r.By = []int{2, 1} }},
		{api.ErrArg, func(x *ruling) { x.r.Floor = 0 }},
		{api.ErrLarge, func(x *ruling) { x.quotas = []api.Quota{{Track: "main"}, {Track: "A", Most: -1}} }},
		{api.ErrName, quota(func(q *api.Quota) { q.Track = "a" })},
		{api.ErrOrder, quota(func(q *api.Quota) { q.Track = "main" })},
		{api.ErrOrder, quota(func(q *api.Quota) { q.Track = "talk" })},
		{api.ErrArg, quota(func(q *api.Quota) { q.Most = api.MaxPapers + 1 })},
		{api.ErrArg, quota(func(q *api.Quota) { q.Most = math.MinInt })},
		{api.ErrArg, quota(func(q *api.Quota) { q.Most = math.MaxInt })},
		{api.ErrArg, quota(func(q *api.Quota) { q.Most = api.MaxPapers })},
		{api.ErrLarge, func(x *ruling) { x.papers = []api.Paper{{}, {}} }},
		{api.ErrName, first(func(p *api.Paper) { p.Id = "p" })},
		{api.ErrName, first(func(p *api.Paper) { p.Track = "main" })},
		{api.ErrForm, first(func(p *api.Paper) { p.Title = "a  b" })},
		{api.ErrForm, first(func(p *api.Paper) { p.Title = "a b" })},
		{api.ErrForm, first(func(p *api.Paper) { p.Authors = keys(api.MaxAuthors + 1) })},
		{api.ErrLarge, first(func(p *api.Paper) { p.Authors = []string{"b", "A", "b"} })},
		{api.ErrName, first(func(p *api.Paper) { p.Authors = []string{"b", "b"} })},
		{api.ErrTwice, first(func(p *api.Paper) { p.Authors, p.Topics = []string{"b", "a"}, keys(api.MaxTopics+1) })},
		{api.ErrLarge, first(func(p *api.Paper) { p.Topics = []string{"A"} })},
		{api.ErrName, first(func(p *api.Paper) { p.Topics = []string{"a", "a"} })},
		{api.ErrOrder, first(func(p *api.Paper) { p.Topics = []string{"a", "b"} })},
		{api.ErrName, func(x *ruling) { x.papers[1] = paper("p", "main") }},
		{api.ErrOrder, func(x *ruling) { x.papers[1] = paper("q", "main") }},
		{api.ErrName, func(x *ruling) { x.l = marks("p 11") }},
		{api.ErrArg, func(x *ruling) { x.l = marks("p 10") }},
	})
	for want, l := range wrongMarks() {
		is(t, check(ruling{r: by(0, 1), l: l}), want)
	}
	for _, key := range badKeys {
		is(t, check(ruling{r: by(0, 1), quotas: []api.Quota{{Track: key}}}), api.ErrName)
	}
	most := ruling{r: by(100, everything()...), l: grid(api.MaxPapers, 7)}
	for i := range api.MaxQuotas {
		most.quotas = append(most.quotas, api.Quota{Track: fmt.Sprintf("k%04d", i), Most: api.MaxPapers})
	}
	for i, key := range keys(api.MaxPapers) {
		most.papers = append(most.papers, paper(key, fmt.Sprintf("k%04d", i%60)))
	}
	is(t, check(most), api.OK)
}

// The example of the document.
func TestDecideExample(t *testing.T) {
	l := marks("a 9 7", "b 4 8", "c 6 6")
	quotas := []api.Quota{{Track: "main", Most: 2}}
	decided := pack(discuss.Decide(by(0, api.CritMean, api.CritLeast), quotas, papers("a/main", "b/main", "c/main"), l))
	is(t, decided, all(decisions("a=1!", "b=3", "c=2!"), api.OK))
}
