package submit_test

import (
	"fmt"
	"math"
	"slices"
	"strings"
	"testing"

	"rebuttal/api"
	"rebuttal/submit"
)

// badNames are no names.
var badNames = []string{"", " ", ".", "a ", " a", "a  b", "a\n", "a\tb", "\xff", "-", "a b c d e f g", strings.Repeat("n", 61)}

// P2.7: Initials.
func TestInitials(t *testing.T) {
	for name, want := range map[string]string{
		"Ann Mary Lee":                   "a m lee",
		"Lee":                            "lee",
		"Ann-Mary O'Neil":                "a m o neil",
		"A. Lee":                         "a lee",
		"(Ann), Lee.":                    "a lee",
		"Émile Zola":                     "É zola",
		"\u20ac\u20ac \U0001f600x Ä1 Öb": "\u20ac \U0001f600 Ä Öb",
		"2nd 3rd Man":                    "2 3 man",
		"a b c d e f":                    "a b c d e f",
		"Ann\u00a0Lee":                   "ann\u00a0lee",
		strings.Repeat("N", 60):          strings.Repeat("n", 60),
	} {
		s, e := submit.Initials(name)
		is(t, all(name, s, e), all(name, want, api.OK))
	}
	for _, name := range badNames {
		s, e := submit.Initials(name)
		is(t, all(name, s, e), all(name, "", api.ErrForm))
	}
}

// at is what was found of a text from the first place of a part of it on.
func at(text string, kind int, part, who string) api.Give {
	from := strings.Index(text, part)
	return api.Give{Kind: kind, Span: api.Span{From: from, To: from + len(part)}, Who: who}
}

// P2.7: Anonymity of names and homes.
func TestAnonymityNames(t *testing.T) {
	text := "By ANN, LEE\nlee (M. a. Lee) of uni. of Ulm; Annlee; Émile-Zola É. Zola e zola\n"
	for _, x := range []struct {
		names, homes []string
		want         []api.Give
	}{
		{nil, nil, []api.Give{}},
		{[]string{"Ann Lee"}, nil, []api.Give{at(text, api.GiveName, "ANN, LEE", "Ann Lee"), at(text, api.GiveInitials, "a. Lee", "Ann Lee")}},
		{[]string{"Lee"}, nil, []api.Give{at(text, api.GiveName, "LEE", "Lee"), at(text, api.GiveName, "lee", "Lee"), at(text, api.GiveName, "Lee", "Lee")}},
		{[]string{"Mary Ann Lee"}, nil, []api.Give{at(text, api.GiveInitials, "M. a. Lee", "Mary Ann Lee")}},
		// Initials that are the name are not there twice, and a name need not be in one line.
		{[]string{"A. Lee"}, nil, []api.Give{at(text, api.GiveName, "a. Lee", "A. Lee")}},
		{[]string{"Lee Lee"}, nil, []api.Give{at(text, api.GiveName, "LEE\nlee", "Lee Lee")}},
		{[]string{"Émile Zola"}, nil, []api.Give{at(text, api.GiveName, "Émile-Zola", "Émile Zola"), at(text, api.GiveInitials, "É. Zola", "Émile Zola")}},
		{nil, []string{"Ulm", "Uni of Ulm"}, []api.Give{at(text, api.GiveHome, "uni. of Ulm", "Uni of Ulm"), at(text, api.GiveHome, "Ulm", "Ulm")}},
		// Homes have no initials.
		{nil, []string{"Ann Lee"}, []api.Give{at(text, api.GiveHome, "ANN, LEE", "Ann Lee")}},
	} {
		l, e := submit.Anonymity(x.names, x.homes, text)
		is(t, all(l, e), all(x.want, api.OK))
	}
}

// P2.7: what is found is in order, and equal ones are one.
func TestAnonymityOrder(t *testing.T) {
	l, e := submit.Anonymity([]string{"b", "a. a", "b", "A a", "B", "bob a"}, []string{"b", "a", "b"}, "a a b a\n")
	give := func(kind, from, to int, who string) api.Give {
		return api.Give{Kind: kind, Span: api.Span{From: from, To: to}, Who: who}
	}
	want := []api.Give{
		give(api.GiveHome, 0, 1, "a"),
		give(api.GiveName, 0, 3, "A a"),
		give(api.GiveName, 0, 3, "a. a"),
		give(api.GiveHome, 2, 3, "a"),
		give(api.GiveName, 4, 5, "B"),
		give(api.GiveName, 4, 5, "b"),
		give(api.GiveHome, 4, 5, "b"),
		give(api.GiveInitials, 4, 7, "bob a"),
		give(api.GiveHome, 6, 7, "a"),
	}
	is(t, all(l, e), all(want, api.OK))
	// Places can share words.
	l, e = submit.Anonymity([]string{"a a"}, nil, "a a a\n")
	is(t, all(l, e), all([]api.Give{give(api.GiveName, 0, 3, "a a"), give(api.GiveName, 2, 5, "a a")}, api.OK))
}

// P2.7: Anonymity of `our previous`.
func TestAnonymityOur(t *testing.T) {
	for text, parts := range map[string][]string{
		"":                                     {},
		"our work\n":                           {},
		"Our PREVIOUS work\n":                  {"Our PREVIOUS"},
		"my prior, we recent; our earlier\n":   {"my prior", "my prior, we recent", "my prior, we recent; our earlier", "we recent", "we recent; our earlier", "our earlier"},
		"our 1 2 3 4 5 previous\n":             {"our 1 2 3 4 5 previous"},
		"our 1 2 3 4 5 6 previous\n":           {},
		"our\nprevious\n":                      {},
		"x our 1\n2 previous our-recent\n":     {"our-recent"},
		"previous our\n":                       {},
		"hour previously ours recents\n":       {},
		"we prior prior\n":                     {"we prior", "we prior prior"},
		"our our prior\n":                      {"our our prior", "our prior"},
		"in the former us mine last earlier\n": {},
	} {
		want := []api.Give{}
		for _, p := range parts {
			want = append(want, at(text, api.GiveOur, p, ""))
		}
		l, e := submit.Anonymity(nil, nil, text)
		is(t, all(text, l, e), all(text, want, api.OK))
	}
}

// P2.7: the errors of Anonymity.
func TestAnonymityErrors(t *testing.T) {
	long := strings.Repeat("a", api.MaxBody+1)
	type question struct {
		names, homes []string
		text         string
	}
	q := question{append(keys(api.MaxAuthors), ""), append(keys(50), ""), long}
	climb(t, q, func(q question) api.Errno {
		l, e := submit.Anonymity(q.names, q.homes, q.text)
		if e != api.OK {
			is(t, l, []api.Give{})
		}
		return e
	}, []rung[question]{
		{api.ErrLarge, func(q *question) { q.names = append(keys(api.MaxAuthors-1), "") }},
		{api.ErrLarge, func(q *question) { q.homes = append(keys(49), "") }},
		{api.ErrForm, func(q *question) { q.names = keys(api.MaxAuthors) }},
		{api.ErrForm, func(q *question) { q.homes = keys(50) }},
		{api.ErrLarge, func(q *question) { q.text = "a" }},
		{api.ErrForm, func(q *question) { q.text = "a\n" }},
	})
	for _, name := range badNames {
		l, e := submit.Anonymity([]string{"a", name}, nil, long)
		is(t, all(name, l, e), all(name, []api.Give{}, api.ErrForm))
		l, e = submit.Anonymity(nil, []string{"a", name}, long)
		is(t, all(name, l, e), all(name, []api.Give{}, api.ErrForm))
	}
	for _, text := range badTexts {
		l, e := submit.Anonymity(nil, nil, text)
		is(t, all(text, l, e), all(text, []api.Give{}, api.ErrForm))
	}
}

// plainGives is Anonymity as the document says it: for each two words of the text, whether what is from the one to the other one is given away.
func plainGives(names, homes []string, text string) []api.Give {
	found := map[api.Give]bool{}
	starts := wordStarts(text)
	for i, from := range starts {
		for _, last := range starts[i:] {
			part := text[from : last+len(submit.Words(text[last:])[0])]
			words := strings.Join(submit.Words(part), " ")
			give := func(kind int, who string) {
				found[api.Give{Kind: kind, Span: api.Span{From: from, To: from + len(part)}, Who: who}] = true
			}
			for _, n := range names {
				whole := strings.Join(submit.Words(n), " ")
				short, _ := submit.Initials(n)
				if words == whole {
					give(api.GiveName, n)
				} else if words == short {
					give(api.GiveInitials, n)
				}
			}
			for _, h := range homes {
				if words == strings.Join(submit.Words(h), " ") {
					give(api.GiveHome, h)
				}
			}
			if between := submit.Words(part); len(between) >= 2 && len(between) <= 7 && !strings.Contains(part, "\n") &&
				slices.Contains([]string{"our", "my", "we"}, between[0]) && slices.Contains([]string{"previous", "earlier", "prior", "recent"}, between[len(between)-1]) {
				give(api.GiveOur, "")
			}
		}
	}
	l := []api.Give{}
	for g := range found {
		l = append(l, g)
	}
	sortKey := func(g api.Give) string { return fmt.Sprintf("%06d %06d %d %s", g.Span.From, g.Span.To, g.Kind, g.Who) }
	slices.SortFunc(l, func(a, b api.Give) int { return strings.Compare(sortKey(a), sortKey(b)) })
	return l
}

func wordStarts(text string) []int {
	var l []int
	for i := range len(text) {
		if len(submit.Words(text[i:i+1])) == 1 && (i == 0 || len(submit.Words(text[i-1:i])) == 0) {
			l = append(l, i)
		}
	}
	return l
}

var pieces = []string{"ann", "Lee", "A", "l", "ulm", "É", "Écio", "our", "we", "prior", "recent", " ", " ", " ", " ", ". ", ", ", "-", "\n"}

// P2.7: Anonymity and Cover as the document says them.
func TestAnonymityPlainly(t *testing.T) {
	d := dice(23)
	names := []string{"Ann Lee", "A. Lee", "ann", "Écio Lee", "Ann A Lee", "Lee Ann Lee", "É L", "Ann, Lee"}
	homes := []string{"Ulm", "Ulm Lee", "ann", "a"}
	for range 400 {
		text := d.text(40, pieces)
		some := names[d.below(len(names)):]
		places := homes[d.below(len(homes)):]
		l, e := submit.Anonymity(some, places, text)
		is(t, all(text, l, e), all(text, plainGives(some, places, text), api.OK))
		s, e := submit.Cover(text, l)
		is(t, all(text, s, e), all(text, plainCover(text, l), api.OK))
		// What is covered is gone.
		again, e := submit.Anonymity(some, places, s)
		is(t, all(text, again, e), all(text, []api.Give{}, api.OK))
	}
}

// plainCover is Cover as the document says it.
func plainCover(text string, l []api.Give) string {
	s := ""
	from := 0
	for _, r := range text {
		point := string(r)
		covered := false
		for _, g := range l {
			covered = covered || g.Span.From < from+len(point) && g.Span.To > from
		}
		if covered && len(submit.Words(point)) == 1 {
			s += strings.Repeat("x", len(point))
		} else {
			s += point
		}
		from += len(point)
	}
	return s
}

// P2.7: Cover, of any spans.
func TestCover(t *testing.T) {
	spans := func(l ...int) []api.Give {
		var g []api.Give
		for i := 0; i < len(l); i += 2 {
			g = append(g, api.Give{Span: api.Span{From: l[i], To: l[i+1]}})
		}
		return g
	}
	text := "Aé, \u20ac\n9z@x\n"
	for _, x := range []struct {
		l    []api.Give
		want string
	}{
		{nil, text},
		{spans(0, 1), "xé, \u20ac\n9z@x\n"},
		{spans(1, 2), "Axx, \u20ac\n9z@x\n"},
		{spans(2, 3), "Axx, \u20ac\n9z@x\n"},
		{spans(3, 5), text},
		{spans(6, 7), "Aé, xxx\n9z@x\n"},
		{spans(5, 6, 9, 10), "Aé, xxx\nxz@x\n"},
		{spans(8, 10, 10, 12), "Aé, \u20ac\nxx@x\n"},
		{spans(9, 10, 0, 14, 0, 2), "xxx, xxx\nxx@x\n"},
	} {
		s, e := submit.Cover(text, x.l)
		is(t, all(show(x.l), s, e), all(show(x.l), x.want, api.OK))
	}
	for _, l := range [][]api.Give{spans(-1, 1), spans(0, 0), spans(2, 1), spans(0, 15), spans(14, 14), spans(0, 1, 3, 3), spans(math.MinInt, math.MaxInt), spans(math.MaxInt, math.MinInt), spans(0, math.MaxInt)} {
		s, e := submit.Cover(text, l)
		is(t, all(show(l), s, e), all(show(l), "", api.ErrArg))
	}
	for _, bad := range badTexts {
		s, e := submit.Cover(bad, spans(-1, -1))
		is(t, all(bad, s, e), all(bad, "", api.ErrForm))
	}
	s, e := submit.Cover(strings.Repeat("a", api.MaxBody+1), spans(-1, -1))
	is(t, all(s, e), all("", api.ErrLarge))
	s, e = submit.Cover("", nil)
	is(t, all(s, e), all("", api.OK))
	s, e = submit.Cover("", spans(0, 1))
	is(t, all(s, e), all("", api.ErrArg))
}
