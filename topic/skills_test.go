package topic_test

import (
	"math"
	"math/big"
	"slices"
	"testing"

	"rebuttal/api"
	"rebuttal/topic"
)

// P3.2: CheckSkills.
func TestCheckSkills(t *testing.T) {
	l := bakery()
	is(t, topic.CheckSkills(l, nil), api.OK)
	is(t, topic.CheckSkills(nil, nil), api.OK)
	is(t, topic.CheckSkills(nil, skills("a", 1)), api.ErrNone)
	is(t, topic.CheckSkills(l, skills("art", 1, "bread", 50, "cake", 100, "rolls", 1)), api.OK)
	many := manyTopics(api.MaxTopics)
	var s []api.Skill
	for _, x := range many {
		s = append(s, api.Skill{Topic: x.Key, Weight: 100})
	}
	is(t, topic.CheckSkills(many, s), api.OK)
	check := func(s []api.Skill) api.Errno { return topic.CheckSkills(l, s) }
	climb(t, slices.Repeat(skills("x", 0), api.MaxTopics+1), check, []rung[[]api.Skill]{
		{api.ErrLarge, func(s *[]api.Skill) { *s = skills("cake", 1, "", 0, "x", 1) }},
		{api.ErrNone, func(s *[]api.Skill) { *s = skills("cake", 1, "art", 0, "x", 1) }},
		{api.ErrOrder, func(s *[]api.Skill) { *s = skills("cake", 1, "cake", 0, "x", 1) }},
		{api.ErrOrder, func(s *[]api.Skill) { *s = skills("cake", 1, "rolls", 0, "x", 1) }},
		{api.ErrArg, func(s *[]api.Skill) { *s = skills("cake", 1, "rolls", 101, "x", 1) }},
		{api.ErrArg, func(s *[]api.Skill) { *s = skills("cake", 1, "rolls", -1) }},
		{api.ErrArg, func(s *[]api.Skill) { *s = skills("cake", math.MaxInt) }},
		{api.ErrArg, func(s *[]api.Skill) { *s = skills("cake", math.MinInt) }},
		{api.ErrArg, func(s *[]api.Skill) { *s = skills("cake", 1, "rolls", 100) }},
	})
}

// P3.2: Learn.
func TestLearn(t *testing.T) {
	l := bakery()
	papers := []api.Paper{
		paper("p", "ann bo", "art cake"),
		paper("q", "bo ann cid", "cake rolls"),
		paper("r", "cid", "bread"),
		paper("s", "ann", "cake"),
		paper("t", "eva", ""),
	}
	for person, want := range map[string][]api.Skill{
		"ann": skills("art", 33, "cake", 100, "rolls", 33),
		"bo":  skills("art", 50, "cake", 100, "rolls", 50),
		"cid": skills("bread", 100, "cake", 100, "rolls", 100),
		"eva": {},
		"zoe": {},
	} {
		is(t, all(person, pack(topic.Learn(l, papers, person))), all(person, all(want, api.OK)))
	}
	is(t, pack(topic.Learn(nil, nil, "ann")), all([]api.Skill{}, api.OK))
	// A weight is at least 1.
	papers = nil
	for i, id := range keys(api.MaxPapers) {
		x := "cake"
		if i < 2 {
			x = "art cake"
		} else if i < 6 {
			x = "bread cake"
		}
		papers = append(papers, paper(id, "ann", x))
	}
	is(t, pack(topic.Learn(l, papers, "ann")), all(skills("art", 1, "bread", 1, "cake", 100), api.OK))
}

// learning is what Learn is given.
type learning struct {
	l      []api.Topic
	papers []api.Paper
	person string
}

// P3.2: the errors of Learn.
func TestLearnErrors(t *testing.T) {
	bad := []api.Paper{paper("p", "bo", "x"), paper("q", "ann", "art y"), {}}
	check := func(x learning) api.Errno {
		s, e := topic.Learn(x.l, x.papers, x.person)
		if e != api.OK {
			is(t, s, []api.Skill{})
		}
		return e
	}
	climb(t, learning{topics("B"), bad, "Ann"}, check, []rung[learning]{
		{api.ErrName, func(x *learning) { x.l = topics("b b") }},
		{api.ErrLoop, func(x *learning) { x.l = bakery() }},
		{api.ErrName, func(x *learning) { x.papers[2] = paper("a", "ann", "") }},
		{api.ErrOrder, func(x *learning) { x.papers[2] = paper("r", "", "") }},
		{api.ErrNone, func(x *learning) { x.papers = bad[:2] }},
		{api.ErrName, func(x *learning) { x.person = "" }},
		{api.ErrName, func(x *learning) { x.person = "bo" }},
		{api.ErrNone, func(x *learning) { x.person = "ann" }},
		{api.ErrNone, func(x *learning) { x.papers[1] = paper("q", "ann", "art") }},
	})
	// A topic of others need not be known.
	is(t, pack(topic.Learn(bakery(), bad[:2], "ann")), all(skills("art", 100), api.OK))
	// A paper can have more topics than anybody wants.
	l := manyTopics(api.MaxTopics)
	p := api.Paper{Id: "p", Track: "t", Title: "T", Authors: []string{"ann"}, Topics: topicKeys(l)}
	s, e := topic.Learn(l, []api.Paper{p}, "ann")
	is(t, all(len(s), topic.CheckSkills(l, s), e), all(api.MaxTopics, api.OK, api.OK))
}

// P3.2: Spread.
func TestSpread(t *testing.T) {
	l := bakery()
	for _, c := range []struct {
		s     []api.Skill
		least int
		want  []api.Skill
	}{
		{nil, 1, nil},
		{skills("cake", 100), 1, skills("bread", 66, "cake", 100, "rolls", 50)},
		{skills("cake", 100), 50, skills("bread", 66, "cake", 100, "rolls", 50)},
		{skills("cake", 100), 51, skills("bread", 66, "cake", 100)},
		{skills("cake", 100), 66, skills("bread", 66, "cake", 100)},
		{skills("cake", 100), 67, skills("cake", 100)},
		{skills("cake", 100), 100, skills("cake", 100)},
		{skills("cake", 99), 100, nil},
		{skills("cake", 1), 1, skills("cake", 1)},
		{skills("art", 7, "bread", 90, "cake", 40), 1, skills("art", 7, "bread", 90, "cake", 60, "rolls", 60)},
		{skills("bread", 10, "cake", 90, "rolls", 80), 1, skills("bread", 60, "cake", 90, "rolls", 80)},
	} {
		is(t, pack(topic.Spread(l, c.s, c.least)), all(c.want, api.OK))
	}
	for _, least := range []int{math.MinInt, -1, 0, 101, math.MaxInt} {
		is(t, pack(topic.Spread(l, nil, least)), all([]api.Skill{}, api.ErrArg))
		is(t, pack(topic.Spread(l, skills("x", 1), least)), all([]api.Skill{}, api.ErrNone))
		is(t, pack(topic.Spread(l, skills("art", 101), least)), all([]api.Skill{}, api.ErrArg))
	}
}

// P3.3: Affinity and Reasons, and the example of the document.
func TestAffinity(t *testing.T) {
	l := bakery()
	for _, c := range []struct {
		s        []api.Skill
		topics   []string
		num, den int
		by       []string
	}{
		{skills("cake", 100), []string{"cake", "rolls"}, 3, 4, []string{"cake", "cake"}},
		{skills("cake", 100), nil, 0, 1, nil},
		{nil, []string{"art", "cake"}, 0, 1, []string{"", ""}},
		{nil, nil, 0, 1, nil},
		{skills("cake", 100), []string{"art"}, 0, 1, []string{""}},
		{skills("art", 100), []string{"art", "bread", "cake"}, 1, 3, []string{"art", "", ""}},
		{skills("art", 1, "bread", 30, "cake", 20), []string{"cake"}, 1, 5, []string{"bread"}},
		{skills("art", 1, "bread", 30, "cake", 21), []string{"cake"}, 21, 100, []string{"cake"}},
		// Of equal parts that of the least topic counts.
		{skills("bread", 60, "cake", 40), []string{"bread", "cake", "rolls"}, 7, 15, []string{"bread", "bread", "bread"}},
		{skills("cake", 40, "rolls", 40), []string{"bread"}, 4, 15, []string{"cake"}},
		{skills("cake", 7, "rolls", 93), []string{"art", "bread", "cake", "rolls"}, 403, 800, []string{"", "rolls", "rolls", "rolls"}},
	} {
		f := api.Fraction{Num: c.num, Den: c.den}
		is(t, all(c.s, c.topics, pack(topic.Affinity(l, c.s, c.topics))), all(c.s, c.topics, all(f, api.OK)))
		r, e := topic.Reasons(l, c.s, c.topics)
		is(t, all(len(r), e), all(len(c.topics), api.OK))
		for i, x := range r {
			is(t, all(x.Topic, x.By), all(c.topics[i], c.by[i]))
		}
	}
	is(t, pack(topic.Reasons(l, skills("cake", 100), []string{"art", "bread", "rolls"})), all([]api.Because{
		{Topic: "art", Part: api.Fraction{Num: 0, Den: 1}},
		{Topic: "bread", By: "cake", Part: api.Fraction{Num: 2, Den: 3}},
		{Topic: "rolls", By: "cake", Part: half()},
	}, api.OK))
}

// P3.3: the errors of both.
func TestAffinityErrors(t *testing.T) {
	l := manyTopics(20)
	type wanted struct {
		s      []api.Skill
		topics []string
	}
	check := func(x wanted) api.Errno {
		f, e := topic.Affinity(l, x.s, x.topics)
		r, e2 := topic.Reasons(l, x.s, x.topics)
		is(t, e2, e)
		if e != api.OK {
			is(t, all(f, r), all(api.Fraction{}, []api.Because{}))
		}
		return e
	}
	climb(t, wanted{skills("k0001", 0), slices.Repeat([]string{""}, api.MaxWanted+1)}, check, []rung[wanted]{
		{api.ErrArg, func(x *wanted) { x.s[0].Topic = "x" }},
		{api.ErrNone, func(x *wanted) { x.s = skills("k0001", 1) }},
		{api.ErrLarge, func(x *wanted) { x.topics = []string{"k0003", "", "k0001"} }},
		{api.ErrNone, func(x *wanted) { x.topics[1] = "k0002" }},
		{api.ErrOrder, func(x *wanted) { x.topics[1] = "k0003" }},
		{api.ErrOrder, func(x *wanted) { x.topics[1] = "k0004" }},
		{api.ErrOrder, func(x *wanted) { x.topics[2] = "k0004" }},
		{api.ErrOrder, func(x *wanted) { x.topics[2] = "k0020" }},
		{api.ErrNone, func(x *wanted) { x.topics = keys(api.MaxWanted) }},
	})
}

// plainPart is Weight / 100 times Near of the best skill, and its topic.
func plainPart(l []api.Topic, s []api.Skill, key string) (*big.Rat, string) {
	best, by := new(big.Rat), ""
	for _, x := range s {
		part := new(big.Rat).Mul(big.NewRat(int64(x.Weight), 100), plainNear(l, x.Topic, key))
		if part.Cmp(best) > 0 {
			best, by = part, x.Topic
		}
	}
	return best, by
}

func plainAffinity(l []api.Topic, s []api.Skill, topics []string) *big.Rat {
	sum := new(big.Rat)
	for _, key := range topics {
		part, _ := plainPart(l, s, key)
		sum.Add(sum, part)
	}
	if len(topics) == 0 {
		return sum
	}
	return sum.Mul(sum, big.NewRat(1, int64(len(topics))))
}

// P3.2 and P3.3: some skills, compared with plain versions, and what follows.
func TestSkillsPlain(t *testing.T) {
	d := dice(11)
	for range 300 {
		l := d.forest(t)
		s, wanted := d.skills(l, 5), d.some(topicKeys(l), api.MaxWanted-1)
		affinity := plainAffinity(l, s, wanted)
		is(t, pack(topic.Affinity(l, s, wanted)), all(fraction(affinity), api.OK))
		is(t, affinity.Sign() >= 0 && affinity.Cmp(big.NewRat(1, 1)) <= 0, true)
		var reasons []api.Because
		for _, key := range wanted {
			part, by := plainPart(l, s, key)
			reasons = append(reasons, api.Because{Topic: key, By: by, Part: fraction(part)})
		}
		is(t, pack(topic.Reasons(l, s, wanted)), all(reasons, api.OK))
		least := 1 + d.below(100)
		var spread []api.Skill
		for _, x := range l {
			part, _ := plainPart(l, s, x.Key)
			if weight := floor(part, 100); weight >= least {
				spread = append(spread, api.Skill{Topic: x.Key, Weight: weight})
			}
		}
		is(t, pack(topic.Spread(l, s, least)), all(spread, api.OK))
		is(t, topic.CheckSkills(l, spread), api.OK)
		addTopic(t, &d, l, s, wanted, affinity)
	}
}

// addTopic wants the Affinity not to be less with a topic more that is a skill with Weight 100.
func addTopic(t *testing.T, d *dice, l []api.Topic, s []api.Skill, wanted []string, before *big.Rat) {
	t.Helper()
	if len(s) == 0 {
		return
	}
	s = slices.Clone(s)
	i := d.below(len(s))
	if slices.Contains(wanted, s[i].Topic) || s[i].Weight < 100 {
		s[i].Weight = 100
		before = plainAffinity(l, s, wanted)
	}
	more := append(slices.Clone(wanted), s[i].Topic)
	slices.Sort(more)
	f, e := topic.Affinity(l, s, slices.Compact(more))
	n, e2 := topic.Compare(f, fraction(before))
	is(t, all(n >= 0, e, e2), all(true, api.OK, api.OK))
}

// P3.1: no Den of this chapter is greater than 2,016,000.
func TestGreatestDen(t *testing.T) {
	l := topics("a", "b a", "c b", "d c", "e d", "f d", "g c", "h b", "i a", "j")
	d := dice(13)
	greatest := 0
	for range 3000 {
		f, e := topic.Affinity(l, d.skills(l, 9), d.some(topicKeys(l), api.MaxWanted))
		is(t, e, api.OK)
		greatest = max(greatest, f.Den)
	}
	if greatest < 50_000 || greatest > 2_016_000 {
		t.Error(greatest)
	}
}
