package discuss

import (
	"cmp"
	"maps"
	"slices"
	"strings"

	"rebuttal/api"
	"rebuttal/syntax"
)

// CheckReplies validates replies.
func CheckReplies(l []api.Reply) api.Errno {
	return syntax.Each(l, api.MaxReplies, func(r api.Reply) api.Errno {
		return cmp.Or(syntax.CheckKey(r.Paper), syntax.CheckMoment(r.At), checkWords(r.Words, api.MaxReply))
	})
}

// Counted are the replies that count.
func Counted(r api.ReplyRules, l []api.Reply) ([]api.Reply, api.Errno) {
	if !areReplyRules(r) {
		return nil, api.ErrArg
	}
	if e := CheckReplies(l); e != api.OK {
		return nil, e
	}
	counts := map[string]api.Reply{}
	for _, reply := range l {
		last, there := counts[reply.Paper]
		if inTime(r, reply) && (!there || compareReplies(reply, last) > 0) {
			counts[reply.Paper] = reply
		}
	}
	var counted []api.Reply
	for _, paper := range slices.Sorted(maps.Keys(counts)) {
		counted = append(counted, counts[paper])
	}
	return counted, api.OK
}

// Replied are the papers of which a reply counts.
func Replied(r api.ReplyRules, l []api.Reply) ([]string, api.Errno) {
	counted, e := Counted(r, l)
	if e != api.OK {
		return nil, e
	}
	var papers []string
	for _, reply := range counted {
		papers = append(papers, reply.Paper)
	}
	return papers, api.OK
}

// checkWords is what is wrong with what somebody says.
func checkWords(words string, most int) api.Errno {
	if words == "" || !syntax.Text(words) {
		return api.ErrForm
	}
	if len(words) > most {
		return api.ErrLarge
	}
	return api.OK
}

// areReplyRules reports whether rules are right.
func areReplyRules(r api.ReplyRules) bool {
	window := r.Window.From >= 0 && r.Window.From <= r.Window.To && r.Window.To <= api.End
	return window && r.Most >= 0 && r.Most <= api.MaxReply
}

func inTime(r api.ReplyRules, reply api.Reply) bool {
	return reply.At >= r.Window.From && reply.At < r.Window.To && len(reply.Words) <= r.Most
}

// compareReplies puts the one of two replies of a paper last that counts.
func compareReplies(a, b api.Reply) int {
	return cmp.Or(cmp.Compare(a.At, b.At), strings.Compare(a.Words, b.Words))
}
