package review

import (
	"strconv"

	"rebuttal/api"
	"rebuttal/syntax"
)

// Words of lines.
const (
	wordReview = "review"
	wordDone   = "done"
	wordDraft  = "draft"
	wordNeeded = "needed"
	wordSecret = "secret"
	noHelper   = "-" // stands for the By of a review that has none
)

// kindWords are the words of the kinds of questions.
var kindWords = [...]string{api.QuestScore: "score", api.QuestChoice: "choice", api.QuestWords: "words"}

// maxDigits is how many digits a number in a text has at most.
const maxDigits = 9

// TextSheet writes questions.
func TextSheet(l []api.Question) (string, api.Errno) {
	if e := CheckSheet(l); e != api.OK {
		return "", e
	}
	return syntax.Write(l, questionLine)
}

// ReadSheet reads questions.
func ReadSheet(text string) ([]api.Question, int, api.Errno) {
	var l []api.Question
	line, e := syntax.Read(text, func(line string) bool {
		q, ok := readQuestion(line)
		l = append(l, q)
		return ok
	})
	if e != api.OK {
		return nil, line, e
	}
	if e := CheckSheet(l); e != api.OK {
		return nil, 0, e
	}
	return l, 0, api.OK
}

// Text writes reviews.
func Text(s api.Setup, l []api.Review) (string, api.Errno) {
	x, e := newBook(s, l)
	if e != api.OK {
		return "", e
	}
	return syntax.Write(l, func(r api.Review) string {
		written := reviewLine(r)
		for _, a := range r.Answers {
			written += x.sheet.text(a)
		}
		return written
	})
}

// Read reads reviews.
func Read(s api.Setup, text string) ([]api.Review, int, api.Errno) {
	x, e := newSetup(s)
	if e != api.OK {
		return nil, 0, e
	}
	r := reader{sheet: x.sheet}
	if line, e := syntax.ReadQuoted(text, r.read, r.take); e != api.OK {
		return nil, line, e
	}
	if r.answers > 0 {
		return nil, syntax.Height(text), api.ErrSyntax
	}
	if e := x.check(r.reviews); e != api.OK {
		return nil, 0, e
	}
	return r.reviews, 0, api.OK
}

func questionLine(q api.Question) string {
	var words []string
	if q.Needed {
		words = append(words, wordNeeded)
	}
	if q.Secret {
		words = append(words, wordSecret)
	}
	words = append(words, kindWords[q.Kind], q.Key)
	if q.Kind == api.QuestChoice {
		return syntax.Line(append(words, q.Options...)...)
	}
	return syntax.Line(append(words, strconv.Itoa(q.Most))...)
}

func reviewLine(r api.Review) string {
	by, state := r.By, wordDraft
	if by == "" {
		by = noHelper
	}
	if r.Done {
		state = wordDone
	}
	return syntax.Line(wordReview, strconv.Itoa(r.No), strconv.Itoa(r.At), r.Paper, r.Person, by, state, strconv.Itoa(len(r.Answers)))
}

// text is an answer as it is in Text.
func (s *sheet) text(a api.Answer) string {
	q, _ := s.question(a.Question)
	word := kindWords[q.Kind]
	switch q.Kind {
	case api.QuestScore:
		return syntax.Line(word, a.Question, strconv.Itoa(a.Number))
	case api.QuestChoice:
		return syntax.Line(word, a.Question, a.Option)
	}
	return syntax.Line(word, a.Question, strconv.Itoa(syntax.Height(a.Words))) + syntax.Quote(a.Words)
}

// kindOf is the kind of question that a word names, or 0.
func kindOf(word string) int {
	for kind, w := range kindWords {
		if w == word {
			return kind
		}
	}
	return 0
}

func readQuestion(line string) (api.Question, bool) {
	words, ok := syntax.Words(line)
	if !ok {
		return api.Question{}, false
	}
	var q api.Question
	q.Needed, words = cutWord(words, wordNeeded)
	q.Secret, words = cutWord(words, wordSecret)
	if len(words) < 2 {
		return api.Question{}, false
	}
	q.Kind, q.Key = kindOf(words[0]), words[1]
	switch {
	case q.Kind == api.QuestChoice:
		q.Options = words[2:]
		return q, true
	case q.Kind == 0 || len(words) != 3:
		return api.Question{}, false
	}
	most, ok := syntax.Number(words[2], maxDigits)
	q.Most = most
	return q, ok
}

// cutWord says whether words begin with one, and leaves it out.
func cutWord(words []string, word string) (bool, []string) {
	if len(words) == 0 || words[0] != word {
		return false, words
	}
	return true, words[1:]
}

// reader has the reviews of the lines so far.
type reader struct {
	sheet   *sheet
	reviews []api.Review
	answers int // how many the last review lacks
}

// read adds a line, if it has one of the forms, and can be where it is. It returns how many lines of Words follow.
func (r *reader) read(line string) (int, bool) {
	words, ok := syntax.Words(line)
	if !ok {
		return 0, false
	}
	if r.answers > 0 {
		return r.addAnswer(words)
	}
	return 0, r.addReview(words)
}

func (r *reader) addReview(words []string) bool {
	if len(words) != 8 || words[0] != wordReview {
		return false
	}
	state := words[6]
	if state != wordDone && state != wordDraft {
		return false
	}
	no, okNo := syntax.Number(words[1], maxDigits)
	at, okAt := syntax.Number(words[2], maxDigits)
	answers, okAnswers := syntax.Count(words[7], maxDigits)
	by := words[5]
	if by == noHelper {
		by = ""
	}
	r.answers = answers
	r.reviews = append(r.reviews, api.Review{No: no, At: at, Paper: words[3], Person: words[4], By: by, Done: state == wordDone})
	return okNo && okAt && okAnswers
}

// addAnswer adds one to the last review. If the sheet has no such question, it can be of any kind. It returns how many lines of Words follow.
func (r *reader) addAnswer(words []string) (lines int, ok bool) {
	if len(words) != 3 {
		return 0, false
	}
	kind := kindOf(words[0])
	q, known := r.sheet.question(words[1])
	if known && q.Kind != kind {
		return 0, false
	}
	a := api.Answer{Question: words[1]}
	switch kind {
	case api.QuestScore:
		a.Number, ok = syntax.Count(words[2], maxDigits)
	case api.QuestChoice:
		a.Option, ok = words[2], true
	case api.QuestWords:
		lines, ok = syntax.Count(words[2], maxDigits)
	}
	last := &r.reviews[len(r.reviews)-1]
	last.Answers = append(last.Answers, a)
	r.answers--
	return lines, ok
}

// take is the Words of the last answer.
func (r *reader) take(words string) {
	answers := r.reviews[len(r.reviews)-1].Answers
	answers[len(answers)-1].Words = words
}
