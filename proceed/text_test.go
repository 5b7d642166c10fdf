package proceed_test

import (
	"fmt"
	"strings"
	"testing"

	"rebuttal/api"
	"rebuttal/proceed"
)

const someText = `final p 3
title On trees
by ann Ana de la Cruz
by bob Jean-Luc Ray
final q 2
title On roots
by ann Ana de la Cruz
final r 1
title On moss
by cid von Moos
by ann Ana Cruz
by bob Jean-Luc Ray
final s 4
title On soil
by dee Plato
`

// plainText writes finals as the document has it.
func plainText(l []api.Final) string {
	s := ""
	for _, f := range l {
		s += fmt.Sprintf("final %s %d\ntitle %s\n", f.Paper, f.Pages, f.Title)
		for _, c := range f.Credits {
			s += fmt.Sprintf("by %s %s\n", c.Key, c.Name)
		}
	}
	return s
}

// P9.9: Text, and Read of what it writes.
func TestText(t *testing.T) {
	for text, l := range map[string][]api.Final{
		"":       nil,
		someText: example(),
		"final p 100\ntitle final x 1\nby by title\n":        finals("p 100 final_x_1 by=title"),
		"final final 1\ntitle title\nby title by\nby by T\n": finals("final 1 title title=by by=T"),
	} {
		is(t, pack(proceed.Text(l)), all(text, api.OK))
		is(t, pack3(proceed.Read(text)), all(l, 0, api.OK))
	}
	d := dice(41)
	for range 500 {
		l := d.finals(t)
		is(t, pack(proceed.Text(l)), all(plainText(l), api.OK))
		is(t, pack3(proceed.Read(plainText(l))), all(l, 0, api.OK))
	}
}

// P9.9: the longest text, and one that is too long; this is asked for before what is wrong with finals.
func TestTextLarge(t *testing.T) {
	l := many(api.MaxPapers)
	for i := range l {
		for _, key := range keys(4) {
			l[i].Credits = append(l[i].Credits, api.Credit{Key: key, Name: strings.Repeat("n", 87)})
		}
	}
	fill := api.MaxText - len(plainText(l))
	is(t, fill > 0, true)
	for i := 0; fill > 0; i++ {
		more := min(fill, api.MaxTitle-1)
		l[i].Title += strings.Repeat("t", more)
		fill -= more
	}
	is(t, len(plainText(l)), api.MaxText)
	is(t, pack(proceed.Text(l)), all(plainText(l), api.OK))
	is(t, pack3(proceed.Read(plainText(l))), all(l, 0, api.OK))
	l[399].Title += "t"
	is(t, proceed.CheckFinals(l), api.OK)
	is(t, pack(proceed.Text(l)), all("", api.ErrLarge))
	is(t, pack3(proceed.Read(plainText(l))), all([]api.Final{}, 0, api.ErrLarge))
	l[0].Paper = "?????"
	is(t, proceed.CheckFinals(l), api.ErrName)
	is(t, pack(proceed.Text(l)), all("", api.ErrLarge))
	l[399].Title = "T"
	is(t, pack(proceed.Text(l)), all("", api.ErrName))
	long := []api.Final{{Paper: "p", Title: strings.Repeat("t", api.MaxText), Pages: 1}}
	is(t, pack(proceed.Text(long)), all("", api.ErrLarge))
	long[0].Title = long[0].Title[:1000]
	is(t, pack(proceed.Text(long)), all("", api.ErrForm))
	for want, l := range map[api.Errno][]api.Final{
		api.ErrOrder: finals("q 1 T a=A", "p 1 T a=A"),
		api.ErrArg:   finals("q 0 T a=A"),
		api.ErrForm:  finals("q 1 T"),
		api.ErrTwice: finals("q 1 T a=A a=A"),
		api.ErrLarge: many(api.MaxPapers + 1),
	} {
		is(t, pack(proceed.Text(l)), all("", want))
	}
}

// P9.9: the first line that has none of the forms, or cannot be where it is.
func TestReadSyntax(t *testing.T) {
	const head, titled = "final p 3\n", "final p 3\ntitle T\n"
	for text, line := range map[string]int{
		"\n": 0, " \n": 0, "x\n": 0, "final\n": 0, "final \n": 0, "final p\n": 0, "final p \n": 0, "final p 3 x\n": 0, "final p 3 \n": 0, "final  p 3\n": 0, "final p  3\n": 0, "final  3\n": 0,
		" final p 3\n": 0, "Final p 3\n": 0, "finals p 3\n": 0, "final\tp 3\n": 0, "final p 3": 0, "final p 3\r\n": 0,
		// Numbers.
		"final p x\n": 0, "final p 03\n": 0, "final p -0\n": 0, "final p +3\n": 0, "final p 1234567890\n": 0, "final p -1234567890\n": 0, "final p 3x\n": 0, "final p -\n": 0, "final p 3.0\n": 0,
		// Titles.
		"title T\n": 0, "title T\n" + titled: 0, head + head: 1, head + "by a A\n": 1, head + "\n": 1, head + "title\n": 1, head + "title \n": 1, head + " title T\n": 1, head + "Title T\n": 1, head + "titles T\n": 1, head + "title T": 1,
		head + "title\tT\n": 1, head + "T\n": 1, head + "x T\n": 1, titled + "title T\n": 2, titled + "by a A\ntitle T\n": 3,
		// Credits.
		"by a A\n": 0, "by a A\n" + titled: 0, titled + "by\n": 2, titled + "by \n": 2, titled + "by a\n": 2, titled + "by a \n": 2, titled + "by  A\n": 2, titled + "by  \n": 2, titled + " by a A\n": 2, titled + "By a A\n": 2, titled + "bys a A\n": 2, titled + "by a A": 2, titled + "by\ta A\n": 2,
		titled + "\n": 2, titled + "x": 2, titled + "final p": 2, titled + "by a A\n\n": 3,
		// A title is missing at the end.
		head: 1, titled + head: 3, titled + "by a A\n" + head: 4, someText + head: 16,
		someText + "\n": 15, someText + " ": 15, strings.TrimSuffix(someText, "\n"): 14,
		// The form is asked for before all checks.
		"final ? 0\ntitle  \nby ? ?\nby \xff  \nfinal ? -1\ntitle \xff\nby ?\n": 6,
	} {
		l, n, e := proceed.Read(text)
		if show(all(l, n, e)) != show(all([]api.Final{}, line, api.ErrSyntax)) {
			t.Errorf("%q: %.100s, %d, %d, want line %d", text, show(l), n, e, line)
		}
	}
}

// P9.9: what has the form, and is not right, has the error of CheckFinals, and no number.
func TestReadChecks(t *testing.T) {
	const titled = "final p 3\ntitle T\n"
	const right = titled + "by a A\n"
	for text, want := range map[string]api.Errno{
		"final P 3\ntitle T\nby a A\n":              api.ErrName,
		right + right:                               api.ErrOrder,
		"final p 3\ntitle  T\nby a A\n":             api.ErrForm,
		"final p 3\ntitle  \nby a A\n":              api.ErrForm,
		"final p 3\ntitle T \nby a A\n":             api.ErrForm,
		"final p 3\ntitle T\r\nby a A\n":            api.ErrForm,
		"final p 3\ntitle \xff\nby a A\n":           api.ErrForm,
		"final p 0\ntitle T\nby a A\n":              api.ErrArg,
		"final p -999999999\ntitle T\nby a A\n":     api.ErrArg,
		"final p 999999999\ntitle T\nby a A\n":      api.ErrArg,
		titled:                                      api.ErrForm,
		titled + right:                              api.ErrForm,
		right + "final q 1\ntitle T\n":              api.ErrForm,
		titled + strings.Repeat("by a A\n", 21):     api.ErrLarge,
		titled + strings.Repeat("by a A\n", 20):     api.ErrTwice,
		titled + "by A A\n":                         api.ErrName,
		titled + "by a  A\n":                        api.ErrForm,
		titled + "by a A \n":                        api.ErrForm,
		titled + "by a  \n":                         api.ErrForm,
		titled + "by a \t\n":                        api.ErrForm,
		strings.Repeat(right, 401):                  api.ErrLarge,
		strings.Repeat("x", api.MaxText+1):          api.ErrLarge,
		strings.Repeat("\n", api.MaxText+1):         api.ErrLarge,
		someText + strings.Repeat("x", api.MaxText): api.ErrLarge,
	} {
		l, n, e := proceed.Read(text)
		if show(all(l, n, e)) != show(all([]api.Final{}, 0, want)) {
			t.Errorf("%.60q: %.100s, %d, %d, want %d", text, show(l), n, e, want)
		}
	}
	is(t, pack3(proceed.Read(strings.Repeat("x", api.MaxText))), all([]api.Final{}, 0, api.ErrSyntax))
	is(t, pack3(proceed.Read("final p 3\n"+strings.Repeat("\n", api.MaxText-10))), all([]api.Final{}, 1, api.ErrSyntax))
}

// Z10: Read accepts nothing but what Text writes.
func TestReadExactly(t *testing.T) {
	d := dice(43)
	pieces := []string{"", " ", "  ", "\n", "p", "-", "0", "1", "by", "\nby z Z", "\nby ", "\ntitle", "title ", "\t", "A", "\xff", "final z 9\ntitle T\nby z Z\n", "\nfinal "}
	accepted := 0
	for range 10_000 {
		from := d.below(len(someText))
		text := someText[:from] + d.pick(pieces) + someText[min(len(someText), from+d.below(5)):]
		l, n, e := proceed.Read(text)
		if e == api.OK {
			accepted++
			is(t, all(pack(proceed.Text(l)), n), all(all(text, api.OK), 0))
		}
	}
	is(t, accepted > 500 && accepted < 6000, true)
}
