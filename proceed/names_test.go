package proceed_test

import (
	"regexp"
	"slices"
	"strings"
	"testing"
	"unicode/utf8"

	"rebuttal/api"
	"rebuttal/proceed"
)

// plainSplit finds the family name with a pattern: the fewest words before it, but one at least if there are several.
func plainSplit(name string) (others []string, family string) {
	if !strings.Contains(name, " ") {
		return nil, name
	}
	pattern := regexp.MustCompile(`^([^ ]+(?: [^ ]+)*?) ((?:(?:da|de|del|den|der|di|la|le|van|von) )*[^ ]+)$`)
	found := pattern.FindStringSubmatch(name)
	return strings.Split(found[1], " "), found[2]
}

func plainSortName(name string) string {
	others, family := plainSplit(name)
	if others == nil {
		return family
	}
	return family + ", " + strings.Join(others, " ")
}

func plainInitials(name string) string {
	others, family := plainSplit(name)
	s := ""
	for _, word := range others {
		points := []rune(word)
		s += string(points[0])
		for i, r := range points {
			if r == '-' && i < len(points)-1 {
				s += "-" + string(points[i+1])
			}
		}
		s += ". "
	}
	return s + family
}

// P9.2: family names, and initials of the other words.
func TestNames(t *testing.T) {
	for name, want := range map[string][2]string{
		"Plato":               {"Plato", "Plato"},
		"van":                 {"van", "van"},
		"Ann Lee":             {"Lee, Ann", "A. Lee"},
		"Ann B. Lee":          {"Lee, Ann B.", "A. B. Lee"},
		"Ana de la Cruz":      {"de la Cruz, Ana", "A. de la Cruz"},
		"Ana la Cruz":         {"la Cruz, Ana", "A. la Cruz"},
		"Ana de Bea la Cruz":  {"la Cruz, Ana de Bea", "A. d. B. la Cruz"},
		"van Dyke":            {"Dyke, van", "v. Dyke"},
		"van der Dyke":        {"der Dyke, van", "v. der Dyke"},
		"van van":             {"van, van", "v. van"},
		"de la van von":       {"la van von, de", "d. la van von"},
		"Ann de":              {"de, Ann", "A. de"},
		"Ann de Lee le":       {"le, Ann de Lee", "A. d. L. le"},
		"Ann De Lee":          {"Lee, Ann De", "A. D. Lee"},
		"Ann dela Lee":        {"Lee, Ann dela", "A. d. Lee"},
		"Ann dé Lee":          {"Lee, Ann dé", "A. d. Lee"},
		"Jean-Luc Ray":        {"Ray, Jean-Luc", "J-L. Ray"},
		"Jean-Luc-Ö Ray-Bo":   {"Ray-Bo, Jean-Luc-Ö", "J-L-Ö. Ray-Bo"},
		"- Ray":               {"Ray, -", "-. Ray"},
		"-a Ray":              {"Ray, -a", "--a. Ray"},
		"a- Ray":              {"Ray, a-", "a. Ray"},
		"-- Ray":              {"Ray, --", "---. Ray"},
		"a--b Ray":            {"Ray, a--b", "a---b. Ray"},
		"Ä-€-\U0001f600x Ray": {"Ray, Ä-€-\U0001f600x", "Ä-€-\U0001f600. Ray"},
		"J.-L. Ray":           {"Ray, J.-L.", "J-L. Ray"},
		"a\u00a0b c":          {"c, a\u00a0b", "a. c"},
		"a\u0085 c":           {"c, a\u0085", "a. c"},
		"Ann, Bea Lee":        {"Lee, Ann, Bea", "A. B. Lee"},
	} {
		is(t, pack(proceed.SortName(name)), all(want[0], api.OK))
		is(t, pack(proceed.Initials(name)), all(want[1], api.OK))
	}
	for _, p := range strings.Fields("da de del den der di la le van von") {
		is(t, pack(proceed.SortName("A "+p+" B")), all(p+" B, A", api.OK))
		for _, other := range []string{strings.ToUpper(p), p + "x", "x" + p, p[1:], strings.ToUpper(p[:1]) + p[1:], p + "-", p + ","} {
			if !slices.Contains(strings.Fields("da de del den der di la le van von"), other) {
				is(t, pack(proceed.SortName("A "+other+" B")), all("B, A "+other, api.OK))
			}
		}
	}
}

// P9.2: names that are not right.
func TestWrongNames(t *testing.T) {
	for _, name := range append([]string{strings.Repeat("n", api.MaxNaming+1), strings.Repeat("n ", api.MaxNaming/2) + "n"}, badLabels...) {
		is(t, pack(proceed.SortName(name)), all("", api.ErrForm))
		is(t, pack(proceed.Initials(name)), all("", api.ErrForm))
	}
	long := "n" + strings.Repeat(" ö", (api.MaxNaming-1)/3)
	is(t, len(long), api.MaxNaming)
	is(t, pack(proceed.SortName(long)), all("ö, n"+strings.Repeat(" ö", 32), api.OK))
	is(t, pack(proceed.Initials(long)), all("n. "+strings.Repeat("ö. ", 32)+"ö", api.OK))
}

// P9.2: names as the document has them.
func TestNamesPlainly(t *testing.T) {
	d := dice(7)
	for range 5000 {
		name := d.name()
		is(t, pack(proceed.SortName(name)), all(plainSortName(name), api.OK))
		s, e := proceed.Initials(name)
		is(t, all(s, e), all(plainInitials(name), api.OK))
		is(t, utf8.ValidString(s), true)
	}
}
