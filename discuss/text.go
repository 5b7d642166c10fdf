package discuss

import (
	"strconv"

	"rebuttal/api"
	"rebuttal/syntax"
)

// wordPost begins the line of a post.
const wordPost = "post"

// maxDigits is how many digits a number in a text has at most.
const maxDigits = 9

// Text writes posts.
func Text(b api.Board, l []api.Post) (string, api.Errno) {
	if e := CheckPosts(b, l); e != api.OK {
		return "", e
	}
	return syntax.Write(l, func(p api.Post) string { return postLine(p) + syntax.Quote(p.Words) })
}

// Read reads posts.
func Read(b api.Board, text string) ([]api.Post, int, api.Errno) {
	x, e := newBoard(b)
	if e != api.OK {
		return nil, 0, e
	}
	var l []api.Post
	accept := func(line string) (int, bool) {
		p, height, ok := readPost(line)
		l = append(l, p)
		return height, ok
	}
	take := func(words string) { l[len(l)-1].Words = words }
	if line, e := syntax.ReadQuoted(text, accept, take); e != api.OK {
		return nil, line, e
	}
	if e := x.check(l); e != api.OK {
		return nil, 0, e
	}
	return l, 0, api.OK
}

func postLine(p api.Post) string {
	return syntax.Line(wordPost, strconv.Itoa(p.No), strconv.Itoa(p.At), p.Paper, p.Person, strconv.Itoa(p.To), strconv.Itoa(syntax.Height(p.Words)))
}

// readPost is a post without its Words, and how many lines these have.
func readPost(line string) (p api.Post, height int, ok bool) {
	words, ok := syntax.Words(line)
	if !ok || len(words) != 7 || words[0] != wordPost {
		return p, 0, false
	}
	no, okNo := syntax.Number(words[1], maxDigits)
	at, okAt := syntax.Number(words[2], maxDigits)
	to, okTo := syntax.Number(words[5], maxDigits)
	height, okHeight := syntax.Count(words[6], maxDigits)
	p = api.Post{No: no, At: at, Paper: words[3], Person: words[4], To: to}
	return p, height, okNo && okAt && okTo && okHeight
}
