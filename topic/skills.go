package topic

import (
	"slices"

	"rebuttal/api"
	"rebuttal/exact"
	"rebuttal/index"
	"rebuttal/submit"
	"rebuttal/syntax"
)

// CheckSkills validates skills.
func CheckSkills(l []api.Topic, s []api.Skill) api.Errno {
	_, e := withSkills(l, s)
	return e
}

// Learn makes skills of the papers of a person.
func Learn(l []api.Topic, papers []api.Paper, person string) ([]api.Skill, api.Errno) {
	f, e := newForest(l)
	if e != api.OK {
		return nil, e
	}
	if e := submit.CheckPapers(papers); e != api.OK {
		return nil, e
	}
	if !syntax.Key(person) {
		return nil, api.ErrName
	}
	many := map[string]int{}
	most := 0
	for _, p := range papers {
		if !slices.Contains(p.Authors, person) {
			continue
		}
		if !f.hasAll(p.Topics) {
			return nil, api.ErrNone
		}
		for _, key := range p.Topics {
			many[key]++
			most = max(most, many[key])
		}
	}
	var skills []api.Skill
	for _, t := range l {
		if n := many[t.Key]; n > 0 {
			skills = append(skills, api.Skill{Topic: t.Key, Weight: max(1, 100*n/most)})
		}
	}
	return skills, api.OK
}

// Spread adds topics that are near to those that somebody knows.
func Spread(l []api.Topic, s []api.Skill, least int) ([]api.Skill, api.Errno) {
	f, e := withSkills(l, s)
	if e != api.OK {
		return nil, e
	}
	if !isPercent(least) {
		return nil, api.ErrArg
	}
	var skills []api.Skill
	for i, k := range f.knowledge(s) {
		if weight := k.part / partPercent; weight >= least {
			skills = append(skills, api.Skill{Topic: l[i].Key, Weight: weight})
		}
	}
	return skills, api.OK
}

// Affinity is how much some topics are known.
func Affinity(l []api.Topic, s []api.Skill, topics []string) (api.Fraction, api.Errno) {
	f, e := withTopics(l, s, topics)
	if e != api.OK {
		return api.Fraction{}, e
	}
	return f.affinity(f.knowledge(s), topics), api.OK
}

// Reasons are the skills by which some topics are known.
func Reasons(l []api.Topic, s []api.Skill, topics []string) ([]api.Because, api.Errno) {
	f, e := withTopics(l, s, topics)
	if e != api.OK {
		return nil, e
	}
	all := f.knowledge(s)
	var reasons []api.Because
	for _, key := range topics {
		k := all[f.number[key]]
		reasons = append(reasons, api.Because{Topic: key, By: k.by, Part: exact.Lowest(k.part, partOne)})
	}
	return reasons, api.OK
}

// Parts, Weight / 100 times Near, as whole numbers.
const (
	partPercent = nearOne
	partOne     = 100 * partPercent
)

// known is how well somebody knows a topic, and by which skill.
type known struct {
	part int
	by   string
}

// knowledge is how well somebody with some skills knows each topic of the forest.
func (f *forest) knowledge(s []api.Skill) []known {
	all := make([]known, len(f.topics))
	for _, skill := range s {
		j := f.number[skill.Topic]
		for i := range all {
			// Skills are sorted, so of equal parts that of the least topic stays.
			if part := skill.Weight * f.near(j, i); part > all[i].part {
				all[i] = known{part, skill.Topic}
			}
		}
	}
	return all
}

func (f *forest) affinity(all []known, topics []string) api.Fraction {
	sum := 0
	for _, key := range topics {
		sum += all[f.number[key]].part
	}
	return exact.Lowest(sum, partOne*max(len(topics), 1))
}

// withSkills is a forest, after its errors and those of skills.
func withSkills(l []api.Topic, s []api.Skill) (*forest, api.Errno) {
	f, e := newForest(l)
	if e != api.OK {
		return nil, e
	}
	if e := f.checkSkills(s); e != api.OK {
		return nil, e
	}
	return f, api.OK
}

// withTopics is a forest, after its errors and those of skills and topics.
func withTopics(l []api.Topic, s []api.Skill, topics []string) (*forest, api.Errno) {
	f, e := withSkills(l, s)
	if e != api.OK {
		return nil, e
	}
	if len(topics) > api.MaxWanted {
		return nil, api.ErrLarge
	}
	if e := index.Rising(f.number, topics); e != api.OK {
		return nil, e
	}
	return f, api.OK
}

func (f *forest) checkSkills(s []api.Skill) api.Errno {
	if len(s) > api.MaxTopics {
		return api.ErrLarge
	}
	last := ""
	for _, skill := range s {
		if !f.has(skill.Topic) {
			return api.ErrNone
		}
		if skill.Topic <= last {
			return api.ErrOrder
		}
		if !isPercent(skill.Weight) {
			return api.ErrArg
		}
		last = skill.Topic
	}
	return api.OK
}

func isPercent(n int) bool { return n >= 1 && n <= 100 }
