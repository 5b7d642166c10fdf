package discuss_test

import (
	"fmt"
	"strings"
	"testing"

	"rebuttal/api"
	"rebuttal/discuss"
)

const someText = `post 1 10 p ann 0 1
|one
post 2 10 q bob 0 1
|two
post 3 11 p kim 1 1
|three
post 4 12 p ann 0 1
|four
post 5 13 q hal 2 1
|five
post 6 14 p bob 1 1
|six
post 7 19 p ann 3 1
|seven
post 8 30 p ann 1 1
|eight
post 9 31 p kim 4 1
|nine
post 10 49 q hal 5 1
|ten
post 11 50 p bob 7 1
|eleven
`

// P7.8: Text, and Read of what it writes.
func TestText(t *testing.T) {
	for text, l := range map[string][]api.Post{
		"":       nil,
		someText: some(),
		fmt.Sprintf("post 1 %d p ann 0 2\n|\n|\n", last): {{No: 1, At: last, Paper: "p", Person: "ann", Words: "\n\n"}},
		"post 1 30 p ann 0 6\n|\n||\n| a \n|-\n|post 2 30 p ann 0 1\n|\n": {
			{No: 1, At: 30, Paper: "p", Person: "ann", Words: "\n|\n a \n-\npost 2 30 p ann 0 1\n\n"},
		},
	} {
		is(t, pack(discuss.Text(example(), l)), all(text, api.OK))
		is(t, pack3(discuss.Read(example(), text)), all(l, 0, api.OK))
	}
	d := dice(31)
	for range 300 {
		b := d.board(t, 4)
		l := d.posts(t, b, 4)
		text, e := discuss.Text(b, l)
		is(t, all(text, e), all(plainText(l), api.OK))
		is(t, pack3(discuss.Read(b, text)), all(l, 0, api.OK))
	}
}

// plainText writes posts as the document has it.
func plainText(l []api.Post) string {
	s := ""
	for _, p := range l {
		lines := strings.SplitAfter(p.Words, "\n")
		lines = lines[:len(lines)-1]
		s += fmt.Sprintf("post %d %d %s %s %d %d\n", p.No, p.At, p.Paper, p.Person, p.To, len(lines))
		for _, line := range lines {
			s += "|" + line
		}
	}
	return s
}

// P7.8: the greatest text.
func TestTextLarge(t *testing.T) {
	var l []api.Post
	size := 0
	for size < api.MaxText-5000 {
		l = append(l, api.Post{No: len(l) + 1, At: 30, Paper: "p", Person: "kim", Words: strings.Repeat("a", api.MaxPost-1) + "\n"})
		size = len(plainText(l))
	}
	for len(plainText(l)) < api.MaxText-2500 {
		l = append(l, api.Post{No: len(l) + 1, At: 30, Paper: "p", Person: "kim", Words: strings.Repeat("\n", 500)})
	}
	l = append(l, api.Post{No: len(l) + 1, At: 30, Paper: "p", Person: "kim", Words: "\n"})
	words := &l[len(l)-1].Words
	*words = strings.Repeat("a", api.MaxText-len(plainText(l))) + "\n"
	text, e := discuss.Text(example(), l)
	is(t, all(len(text), text == plainText(l), e), all(api.MaxText, true, api.OK))
	is(t, pack3(discuss.Read(example(), text)), all(l, 0, api.OK))
	*words = "a" + *words
	is(t, pack(discuss.Text(example(), l)), all("", api.ErrLarge))
	is(t, pack3(discuss.Read(example(), plainText(l))), all([]api.Post{}, 0, api.ErrLarge))
	is(t, pack3(discuss.Read(example(), strings.Repeat("x", api.MaxText))), all([]api.Post{}, 0, api.ErrSyntax))
	most := lots(api.MaxPosts)
	for i := range most {
		most[i].Words = l[0].Words
	}
	is(t, pack(discuss.Text(example(), most)), all("", api.ErrLarge))
	text, e = discuss.Text(example(), lots(api.MaxPosts))
	is(t, all(text, e), all(plainText(lots(api.MaxPosts)), api.OK))
}

// P7.8: the errors of Text are those of posts.
func TestTextErrors(t *testing.T) {
	for want, l := range wrongPosts() {
		is(t, pack(discuss.Text(example(), l)), all("", want))
	}
}

// P7.8: the first line that has not the form, or cannot be where it is.
func TestReadSyntax(t *testing.T) {
	const head = "post 1 10 p ann 0 1\n"
	for text, line := range map[string]int{
		"\n": 0, " \n": 0, "x\n": 0, someText + "\n": 22, someText + "x": 22, someText + "|\n": 22, strings.TrimSuffix(someText, "\n"): 21,
		// Lines of posts.
		"post\n": 0, "post 1 10 p ann 0\n": 0, "post 1 10 p ann 0 1 \n|a\n": 0, "post 1 10 p ann 0 1 1\n|a\n": 0, "post 1 10 p  0 1\n|a\n": 0, " post 1 10 p ann 0 1\n|a\n": 0, "post  1 10 p ann 0 1\n|a\n": 0,
		"Post 1 10 p ann 0 1\n|a\n": 0, "review 1 10 p ann 0 1\n|a\n": 0, "post 1 10 p ann 0 1\r\n|a\n": 0, "post 1 10 p ann 0 1": 0, "post\t1 10 p ann 0 1\n|a\n": 0,
		"post x 10 p ann 0 1\n|a\n": 0, "post 01 10 p ann 0 1\n|a\n": 0, "post +1 10 p ann 0 1\n|a\n": 0, "post -0 10 p ann 0 1\n|a\n": 0, "post 1000000000 10 p ann 0 1\n|a\n": 0,
		"post 1 x p ann 0 1\n|a\n": 0, "post 1 010 p ann 0 1\n|a\n": 0, "post 1 1000000000 p ann 0 1\n|a\n": 0, "post 1 -1000000000 p ann 0 1\n|a\n": 0,
		"post 1 10 p ann x 1\n|a\n": 0, "post 1 10 p ann 00 1\n|a\n": 0, "post 1 10 p ann - 1\n|a\n": 0, "post 1 10 p ann 1000000000 1\n|a\n": 0,
		"post 1 10 p ann 0 x\n|a\n": 0, "post 1 10 p ann 0 -1\n|a\n": 0, "post 1 10 p ann 0 -0\n|a\n": 0, "post 1 10 p ann 0 01\n|a\n": 0, "post 1 10 p ann 0 1000000000\n|a\n": 0,
		// Lines of words.
		"|\n": 0, "|": 0, head + "|a": 1, head + "a\n": 1, head + " |a\n": 1, head + "\n": 1, head + head: 1, head + "|a\n|b\n": 2, head + "|a\n\n": 2, head + "|a\nx": 2,
		"post 1 10 p ann 0 2\n|a\npost 2 10 p ann 0 1\n|b\n": 2, "post 1 10 p ann 0 0\n|a\n": 1, head + "|a\npost 2 10 p ann\n|b\n": 2,
		// What is missing at the end.
		head: 1, "post 1 10 p ann 0 3\n|a\n|b\n": 3, "post 1 10 p ann 0 999999999\n|a\n": 2, head + "|a\n" + head: 3,
		// The form is asked for before all checks.
		"post 9 -1 P ? 7 1\n|\x00\npost -5 999999999 p \xff -3 0\nx\n": 3,
	} {
		l, n, e := discuss.Read(example(), text)
		if show(all(l, n, e)) != show(all([]api.Post{}, line, api.ErrSyntax)) {
			t.Errorf("%q: %.100s, %d, %d, want line %d", text, show(l), n, e, line)
		}
	}
}

// P7.8: what has the form, and is not right, has the error of CheckPosts, and no number.
func TestReadChecks(t *testing.T) {
	for text, want := range map[string]api.Errno{
		"post 2 10 p ann 0 1\n|a\n":                                           api.ErrArg,
		"post -1 10 p ann 0 1\n|a\n":                                          api.ErrArg,
		"post 999999999 10 p ann 0 1\n|a\n":                                   api.ErrArg,
		"post 1 -10 p ann 0 1\n|a\n":                                          api.ErrArg,
		"post 1 999999999 p ann 0 1\n|a\n":                                    api.ErrArg,
		"post 1 30 p ann 0 1\n|a\npost 2 10 p ann 0 1\n|a\n":                  api.ErrOrder,
		"post 1 10 P ann 0 1\n|a\n":                                           api.ErrName,
		"post 1 10 p \xff 0 1\n|a\n":                                          api.ErrName,
		"post 1 10 | | 0 1\n|a\n":                                             api.ErrName,
		"post 1 9 p ann 0 1\n|a\n":                                            api.ErrRule,
		"post 1 10 p ann 1 1\n|a\n":                                           api.ErrNone,
		"post 1 10 p ann -999999999 1\n|a\n":                                  api.ErrNone,
		"post 1 10 p ann 0 0\n":                                               api.ErrForm,
		"post 1 10 p ann 0 0\npost 2 10 p ann 0 1\n|a\n":                      api.ErrForm,
		"post 1 10 p ann 0 1\n|\t\n":                                          api.ErrForm,
		"post 1 10 p ann 0 1\n|\xff\n":                                        api.ErrForm,
		"post 1 10 p ann 0 1\n|\r\n":                                          api.ErrForm,
		"post 1 10 p ann 0 2\n|\n|" + strings.Repeat("a", api.MaxPost) + "\n": api.ErrLarge,
		strings.Repeat("post 1 10 p ann 0 0\n", api.MaxPosts+1):               api.ErrLarge,
		strings.Repeat("x", api.MaxText+1):                                    api.ErrLarge,
		strings.Repeat("\n", api.MaxText+1):                                   api.ErrLarge,
	} {
		l, n, e := discuss.Read(example(), text)
		if show(all(l, n, e)) != show(all([]api.Post{}, 0, want)) {
			t.Errorf("%.60q: %.100s, %d, %d, want %d", text, show(l), n, e, want)
		}
	}
	for want, b := range wrongBoards() {
		is(t, pack3(discuss.Read(b, strings.Repeat("x", api.MaxText+1))), all([]api.Post{}, 0, want))
		is(t, pack3(discuss.Read(b, "x\nx")), all([]api.Post{}, 0, want))
	}
}

// Z10: Read accepts nothing but what Text writes.
func TestReadExactly(t *testing.T) {
	d := dice(37)
	pieces := []string{"", " ", "  ", "\n", "a", "post", "0", "1", "-", "|", "|a\n", "\t", "A", "\xff", "post 12 60 p ann 1 2\n|a\n|b\n", "x", "1 0"}
	accepted := 0
	for range 10_000 {
		from := d.below(len(someText))
		text := someText[:from] + d.pick(pieces) + someText[min(len(someText), from+d.below(3)):]
		l, n, e := discuss.Read(example(), text)
		if e == api.OK {
			accepted++
			is(t, all(pack(discuss.Text(example(), l)), n), all(all(text, api.OK), 0))
		}
	}
	is(t, accepted > 300 && accepted < 5000, true)
}
