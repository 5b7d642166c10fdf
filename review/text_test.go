package review_test

import (
	"fmt"
	"strings"
	"testing"

	"rebuttal/api"
	"rebuttal/review"
)

// P5.6: TextSheet, and ReadSheet of what it writes.
func TestTextSheet(t *testing.T) {
	for text, l := range map[string][]api.Question{
		"needed score score 10\nsecret words note 30\nchoice fit yes no maybe\nsecret score sure 100\n": sheet(),
		"needed secret choice a a\n": {{Key: "a", Kind: api.QuestChoice, Options: []string{"a"}, Needed: true, Secret: true}},
		"words words 5000\nneeded words needed 1\nsecret score secret 1\nchoice choice score secret needed\n": {
			{Key: "words", Kind: api.QuestWords, Most: api.MaxWords},
			{Key: "needed", Kind: api.QuestWords, Most: 1, Needed: true},
			{Key: "secret", Kind: api.QuestScore, Most: 1, Secret: true},
			{Key: "choice", Kind: api.QuestChoice, Options: []string{"score", "secret", "needed"}},
		},
	} {
		is(t, pack(review.TextSheet(l)), all(text, api.OK))
		is(t, pack3(review.ReadSheet(text)), all(l, 0, api.OK))
	}
	// The greatest sheet.
	var l []api.Question
	for _, key := range keys(api.MaxQuestions) {
		q := api.Question{Key: key + strings.Repeat("k", api.MaxName-5), Kind: api.QuestChoice, Needed: true, Secret: true}
		for _, option := range keys(api.MaxOptions) {
			q.Options = append(q.Options, option+strings.Repeat("o", api.MaxName-5))
		}
		l = append(l, q)
	}
	s, e := review.TextSheet(l)
	is(t, all(len(s), e), all(api.MaxQuestions*(21+(1+api.MaxOptions)*(api.MaxName+1)), api.OK))
	is(t, pack3(review.ReadSheet(s)), all(l, 0, api.OK))
	is(t, pack(review.TextSheet(nil)), all("", api.ErrForm))
	is(t, pack(review.TextSheet(append(sheet(), sheet()[0]))), all("", api.ErrTwice))
	is(t, pack(review.TextSheet(make([]api.Question, api.MaxQuestions+1))), all("", api.ErrLarge))
}

// P5.6: the first line of a sheet that has not the form.
func TestReadSheetSyntax(t *testing.T) {
	for text, line := range map[string]int{
		"\n": 0, "score a 1": 0, "score a 1\n\n": 1, "score a 1\nwords b 1": 1, " \n": 0,
		"score\n": 0, "score a\n": 0, "score a \n": 0, "score  a 1\n": 0, " score a 1\n": 0, "score a 1 \n": 0, "score a 1 2\n": 0,
		"words\n": 0, "words a\n": 0, "words a b\n": 0, "words a 1 1\n": 0,
		"choice\n": 0, "choice a \n": 0, "choice a  b\n": 0, "choice a b \n": 0, "choice \n": 0,
		"score a 01\n": 0, "score a -0\n": 0, "score a +1\n": 0, "score a 1000000000\n": 0, "score a 1x\n": 0, "score a -1000000000\n": 0, "score a -\n": 0,
		"Score a 1\n": 0, "text a 1\n": 0, "a 1\n": 0, "0 a 1\n": 0, "\tscore a 1\n": 0,
		"needed\n": 0, "secret\n": 0, "needed secret\n": 0, "needed score\n": 0, "needed secret score a\n": 0, "needed needed score a 1\n": 0, "secret needed score a 1\n": 0, "secret secret score a 1\n": 0, "needed  score a 1\n": 0, "score needed a 1\n": 0, "needed secret needed score a 1\n": 0,
		"score a 1\r\n": 0, "score A 0\nscore A 1\nx": 2, "score a 1\nwords b 1\nchoice c\nscore d\n": 3,
		strings.Repeat("choice a\n", 20_000) + "choice\n": 20_000,
	} {
		l, n, e := review.ReadSheet(text)
		if show(all(l, n, e)) != show(all([]api.Question{}, line, api.ErrSyntax)) {
			t.Errorf("%.40q: %.100s, %d, %d", text, show(l), n, e)
		}
	}
}

// P5.6: what has the form, and is no sheet, has the error of CheckSheet, and no number.
func TestReadSheetChecks(t *testing.T) {
	for text, want := range map[string]api.Errno{
		"":                     api.ErrForm,
		"score a 0\n":          api.ErrArg,
		"score a -1\n":         api.ErrArg,
		"score a 101\n":        api.ErrArg,
		"score a -999999999\n": api.ErrArg,
		"words a 999999999\n":  api.ErrArg,
		"words a 0\n":          api.ErrArg,
		"choice a\n":           api.ErrForm,
		"choice a B\n":         api.ErrName,
		"choice a b c b\n":     api.ErrTwice,
		"choice a b" + strings.Repeat(" c", 20) + "\n": api.ErrLarge,
		"needed score A 1\n":                           api.ErrName,
		"score \t 1\n":                                 api.ErrName,
		"score \xff 1\n":                               api.ErrName,
		"score a 1\nscore a 1\n":                       api.ErrTwice,
		"score needed 1\nneeded words needed 1\n":      api.ErrTwice,
		strings.Repeat("score a 1\n", 31):              api.ErrLarge,
		strings.Repeat("x", api.MaxText+1):             api.ErrLarge,
		strings.Repeat("score a 1\n", 20_000):          api.ErrLarge,
	} {
		l, n, e := review.ReadSheet(text)
		if show(all(l, n, e)) != show(all([]api.Question{}, 0, want)) {
			t.Errorf("%.40q: %.100s, %d, %d, want %d", text, show(l), n, e, want)
		}
	}
}

const someText = `review 1 10 p bob - done 2
score score 7
words note 1
|no
review 2 20 p cid fay draft 0
review 3 20 q ann - done 2
score score 1
choice fit yes
review 4 30 p bob fay done 3
score score 6
choice fit no
score sure 99
review 5 40 q cid - draft 1
score score 3
review 6 50 p bob - draft 1
words note 1
|hm
review 7 60 p cid fay done 4
score score 2
words note 1
|bad
choice fit maybe
score sure 0
`

// P5.6: Text, and Read of what it writes.
func TestText(t *testing.T) {
	for text, l := range map[string][]api.Review{
		"":       nil,
		someText: some(),
		fmt.Sprintf("review 1 %d r bob p draft 0\n", last): reviews(fmt.Sprint(last, " r bob p draft")),
		"review 1 0 p bob - draft 1\nwords note 7\n|\n||\n| a \n|-\n|review 2 0 p bob - draft 0\n|" + "score 1\n|" + "\n": {
			{No: 1, Paper: "p", Person: "bob", Answers: []api.Answer{{Question: "note", Words: "\n|\n a \n-\nreview 2 0 p bob - draft 0\nscore 1\n\n"}}},
		},
	} {
		s := example()
		s.Sheet[1].Most = api.MaxWords
		is(t, pack(review.Text(s, l)), all(text, api.OK))
		is(t, pack3(review.Read(s, text)), all(l, 0, api.OK))
	}
	is(t, pack(review.Text(example(), reviews("5 p bob - done"))), all("", api.ErrForm))
	d := dice(9)
	for range 500 {
		s := d.setup(t)
		l := d.reviews(t, s, 12)
		text, e := review.Text(s, l)
		is(t, all(text, e), all(plainText(l), api.OK))
		is(t, pack3(review.Read(s, text)), all(l, 0, api.OK))
	}
}

// plainText writes reviews as the document has it.
func plainText(l []api.Review) string {
	s := ""
	for _, r := range l {
		by, state := r.By, "draft"
		if by == "" {
			by = "-"
		}
		if r.Done {
			state = "done"
		}
		s += fmt.Sprintf("review %d %d %s %s %s %s %d\n%s", r.No, r.At, r.Paper, r.Person, by, state, len(r.Answers), plainAnswers(r.Answers))
	}
	return s
}

// P5.6: the greatest text.
func TestTextLarge(t *testing.T) {
	s := example()
	s.Sheet[1].Most = api.MaxWords
	var l []api.Review
	size := 0
	for size < api.MaxText-6000 {
		l = append(l, api.Review{No: len(l) + 1, Paper: "p", Person: "bob", Answers: []api.Answer{{Question: "note", Words: strings.Repeat("a", api.MaxWords-1) + "\n"}}})
		size = len(plainText(l))
	}
	l = append(l, api.Review{No: len(l) + 1, Paper: "p", Person: "bob", Answers: []api.Answer{{Question: "note", Words: "\n"}}})
	words := &l[len(l)-1].Answers[0].Words
	*words = strings.Repeat("a", api.MaxText-len(plainText(l))) + "\n"
	text, e := review.Text(s, l)
	is(t, all(len(text), text == plainText(l), e), all(api.MaxText, true, api.OK))
	is(t, pack3(review.Read(s, text)), all(l, 0, api.OK))
	*words = "a" + *words
	is(t, pack(review.Text(s, l)), all("", api.ErrLarge))
	is(t, pack3(review.Read(s, plainText(l))), all([]api.Review{}, 0, api.ErrLarge))
	is(t, pack3(review.Read(s, strings.Repeat("x", api.MaxText))), all([]api.Review{}, 0, api.ErrSyntax))
	more := lots(api.MaxReviews)
	for i := range more {
		more[i].Answers = l[0].Answers
	}
	is(t, pack(review.Text(s, more)), all("", api.ErrLarge))
	// Many lines of Words.
	lines := "review 1 0 p bob - draft 1\nwords note 99970\n" + strings.Repeat("|\n", 99_970)
	is(t, pack3(review.Read(s, lines)), all([]api.Review{}, 0, api.ErrLarge))
}

// P5.6: the first line that has not the form, or cannot be where it is.
func TestReadSyntax(t *testing.T) {
	const head = "review 1 10 p bob - done 1\n"
	for text, line := range map[string]int{
		"\n": 0, " \n": 0, "x\n": 0, someText + "\n": 23, someText + "x": 23, strings.TrimSuffix(someText, "\n"): 22,
		// Lines of reviews.
		"review\n": 0, "review 1 10 p bob - done\n": 0, "review 1 10 p bob - done 0 \n": 0, "review 1 10 p bob - done 0 0\n": 0, "review 1 10 p bob  done 0\n": 0,
		"review 1 10 p bob - Done 0\n": 0, "review 1 10 p bob - - 0\n": 0, "review 1 10 p bob - done -1\n": 0, "review 1 10 p bob - done -0\n": 0, "review 1 10 p bob - done x\n": 0,
		"review x 10 p bob - done 0\n": 0, "review 01 10 p bob - done 0\n": 0, "review 1 1x p bob - done 0\n": 0, "review 1 +1 p bob - done 0\n": 0, "review 1 1000000000 p bob - done 0\n": 0, "review 1000000000 1 p bob - done 0\n": 0, "review 1 1 p bob - done 1000000000\n": 0,
		"Review 1 10 p bob - done 0\n": 0, "draft 1 10 p bob - review 0\n": 0, "review 1 10 p bob - done 0": 0, " review 1 10 p bob - done 0\n": 0, "review 1 10 p bob - done 0\r\n": 0,
		// Answers: what is none, what is none of the sheet, what cannot be there.
		head + "score\n": 1, head + "score score\n": 1, head + "score score x\n": 1, head + "score score -1\n": 1, head + "score score 1 1\n": 1, head + "score score 1": 1, head + "score score 01\n": 1, head + "score  score 1\n": 1, head + "score score 1000000000\n": 1,
		head + "choice fit\n": 1, head + "choice fit yes no\n": 1, head + "choice fit \n": 1, head + "words note\n": 1, head + "words note x\n": 1, head + "words note -1\n": 1,
		head + "score note 1\n": 1, head + "words score 1\n": 1, head + "choice score 1\n": 1, head + "score fit 1\n": 1, head + "words fit 1\n": 1, head + "choice note a\n": 1, head + "choice sure a\n": 1,
		head + "text x 1\n": 1, head + "score x a\n": 1, head + "score x -1\n": 1, head + "words x a\n": 1, head + "words x -1\n": 1, head + "choice x\n": 1, head + "review 2 10 p bob - done 0\n": 1, head + "|\n": 1, head + "\n": 1, head + "needed score x 1\n": 1,
		head + "score score 1\nscore score 1\n": 2, head + "score score 1\n|\n": 2, "score score 1\n": 0, "|\n": 0, "|": 0,
		"review 1 10 p bob - done 0\nscore score 1\n": 1, "review 1 10 p bob - done 0\n|\n": 1,
		// Lines of words.
		head + "words note 2\n|a\nreview 2 10 p bob - done 0\n": 3, head + "words note 2\n|a\n b\n": 3, head + "words note 2\n|a\n\n": 3, head + "words note 1\n|a\n|b\n": 3, head + "words note 1\nscore score 1\n": 2, head + "words note 1\n|a": 2, head + "words x 1\n a\n": 2, head + "words note 0\n|a\n": 2,
		// What is missing at the end.
		head: 1, "review 1 10 p bob - done 2\nscore score 1\n": 2, head + "words note 1\n": 2, head + "words note 3\n|a\n|b\n": 4, "review 1 10 p bob - done 2\nwords note 1\n|a\n": 3, "review 1 10 p bob - done 999999999\n": 1, head + "words x 999999999\n|\n": 3,
		// The form is asked for before all checks.
		"review 9 -1 P ? ? done 2\nscore score 11\nwords x 1\n|\x00\nx\n": 4,
	} {
		l, n, e := review.Read(example(), text)
		if show(all(l, n, e)) != show(all([]api.Review{}, line, api.ErrSyntax)) {
			t.Errorf("%q: %.100s, %d, %d, want line %d", text, show(l), n, e, line)
		}
	}
}

// P5.6: what has the form, and is not right, has the error of Check, and no number.
func TestReadChecks(t *testing.T) {
	const head = "review 1 10 p bob - draft 1\n"
	for text, want := range map[string]api.Errno{
		"review 2 10 p bob - draft 0\n":                              api.ErrArg,
		"review -1 10 p bob - draft 0\n":                             api.ErrArg,
		"review 999999999 10 p bob - draft 0\n":                      api.ErrArg,
		"review 1 -1 p bob - draft 0\n":                              api.ErrArg,
		"review 1 999999999 p bob - draft 0\n":                       api.ErrArg,
		"review 1 10 p dee - draft 0\n":                              api.ErrNone,
		"review 1 10 - - - draft 0\n":                                api.ErrNone,
		"review 1 10 \xff \t - draft 0\n":                            api.ErrNone,
		"review 1 10 p bob B draft 0\n":                              api.ErrName,
		"review 1 10 p bob -- draft 0\n":                             api.ErrName,
		"review 1 10 p bob bob draft 0\n":                            api.ErrLoop,
		"review 1 10 p bob - done 0\n":                               api.ErrForm,
		head + "score score 11\n":                                    api.ErrArg,
		head + "score score 999999999\n":                             api.ErrArg,
		head + "choice fit Yes\n":                                    api.ErrNone,
		head + "words note 0\n":                                      api.ErrForm,
		head + "words note 1\n|\t\n":                                 api.ErrForm,
		head + "words note 1\n|\xff\n":                               api.ErrForm,
		head + "words note 1\n|\r\n":                                 api.ErrForm,
		head + "words note 2\n|\n|" + strings.Repeat("a", 29) + "\n": api.ErrLarge,
		// An answer to a question that there is not can have any of the three forms.
		head + "score x 1\n":         api.ErrNone,
		head + "choice x a\n":        api.ErrNone,
		head + "choice x |\n":        api.ErrNone,
		head + "words x 0\n":         api.ErrNone,
		head + "words x 2\n|a\n|b\n": api.ErrNone,
		head + "words \xff 1\n||\n":  api.ErrNone,
		"review 1 10 p bob - draft 2\nscore score 1\nscore score 1\n":        api.ErrOrder,
		"review 1 10 p bob - draft 2\nscore sure 1\nscore score 1\n":         api.ErrOrder,
		"review 1 10 p bob - draft 31\n" + strings.Repeat("score x 1\n", 31): api.ErrLarge,
		"review 1 10 p bob - draft 0\nreview 2 9 p bob - draft 0\n":          api.ErrOrder,
		strings.Repeat("review 1 1 p bob - draft 0\n", api.MaxReviews+1):     api.ErrLarge,
		strings.Repeat("\n", api.MaxText+1):                                  api.ErrLarge,
	} {
		l, n, e := review.Read(example(), text)
		if show(all(l, n, e)) != show(all([]api.Review{}, 0, want)) {
			t.Errorf("%.60q: %.100s, %d, %d, want %d", text, show(l), n, e, want)
		}
	}
	for want, s := range wrongSetups() {
		is(t, pack3(review.Read(s, strings.Repeat("x", api.MaxText+1))), all([]api.Review{}, 0, want))
		is(t, pack3(review.Read(s, "x\nx")), all([]api.Review{}, 0, want))
	}
}

// Z10: the functions that read accept nothing but what their partners write.
func TestReadExactly(t *testing.T) {
	d := dice(11)
	const sheetText = "needed score score 10\nsecret words note 30\nneeded secret choice fit yes no maybe\n"
	pieces := []string{"", " ", "  ", "\n", "a", "score", "0", "1", "-", "|", "|a\n", "\t", "A", "\xff", "needed ", "secret ", "choice fit yes\n", "words note 1\n", "done", "x", "review 8 60 r bob - draft 0\n"}
	accepted, sheets := 0, 0
	spoil := func(s string) string {
		at := d.below(len(s))
		return s[:at] + d.pick(pieces) + s[min(len(s), at+d.below(3)):]
	}
	for range 10_000 {
		text := spoil(someText)
		l, n, e := review.Read(example(), text)
		if e == api.OK {
			accepted++
			is(t, all(pack(review.Text(example(), l)), n), all(all(text, api.OK), 0))
		}
		text = spoil(sheetText)
		q, n, e := review.ReadSheet(text)
		if e == api.OK {
			sheets++
			is(t, all(pack(review.TextSheet(q)), n), all(all(text, api.OK), 0))
		}
	}
	is(t, accepted > 300 && accepted < 5000 && sheets > 1000 && sheets < 5000, true)
}
