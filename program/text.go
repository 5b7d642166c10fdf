package program

import (
	"strings"

	"rebuttal/api"
	"rebuttal/syntax"
)

// What lines of a text begin with.
const (
	wordSession = "session"
	indent      = "  " // of a paper
)

// Print writes a programme.
func Print(g api.Grid, p []api.Session) (string, api.Errno) {
	if e := Check(g, p); e != api.OK {
		return "", e
	}
	return syntax.Write(p, func(s api.Session) string {
		written := syntax.Line(wordSession, s.Slot, s.Room)
		for _, paper := range s.Papers {
			written += indent + syntax.Line(paper)
		}
		return written
	})
}

// Read reads a programme.
func Read(g api.Grid, text string) ([]api.Session, int, api.Errno) {
	if e := CheckGrid(g); e != api.OK {
		return nil, 0, e
	}
	var l []api.Session
	line, e := syntax.Read(text, func(line string) bool {
		name, isPaper := strings.CutPrefix(line, indent)
		words, ok := syntax.Words(name)
		switch {
		case !ok:
			return false
		case isPaper && len(words) == 1 && len(l) > 0:
			last := &l[len(l)-1]
			last.Papers = append(last.Papers, name)
			return true
		case !isPaper && len(words) == 3 && words[0] == wordSession:
			l = append(l, api.Session{Slot: words[1], Room: words[2]})
			return true
		}
		return false
	})
	if e != api.OK {
		return nil, line, e
	}
	if e := Check(g, l); e != api.OK {
		return nil, 0, e
	}
	return l, 0, api.OK
}
