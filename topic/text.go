package topic

import (
	"slices"
	"strings"

	"rebuttal/api"
	"rebuttal/syntax"
)

// step is by how much a topic is indented below another one.
const step = "  "

// PrintForest writes a forest.
func PrintForest(l []api.Topic) (string, api.Errno) {
	if e := CheckForest(l); e != api.OK {
		return "", e
	}
	below := map[string][]string{}
	for _, t := range l {
		below[t.Above] = append(below[t.Above], t.Key)
	}
	var b strings.Builder
	var write func(above, indent string)
	write = func(above, indent string) {
		for _, key := range below[above] {
			b.WriteString(indent + key + "\n")
			write(key, indent+step)
		}
	}
	write("", "")
	return b.String(), api.OK
}

// ParseForest reads a forest.
func ParseForest(text string) ([]api.Topic, int, api.Errno) {
	var p parser
	if line, e := syntax.Read(text, p.read); e != api.OK {
		return nil, line, e
	}
	slices.SortStableFunc(p.topics, func(a, b api.Topic) int { return strings.Compare(a.Key, b.Key) })
	if e := CheckForest(p.topics); e != api.OK {
		return nil, 0, e
	}
	return p.topics, 0, api.OK
}

// parser has the topics of the lines so far, and the way down to the last one.
type parser struct {
	topics []api.Topic
	way    []string
}

// read adds a line, if it has the form of one, and can be where it is.
func (p *parser) read(line string) bool {
	key := strings.TrimLeft(line, " ")
	blanks := len(line) - len(key)
	depth := blanks / len(step)
	if key == "" || strings.Contains(key, " ") || blanks%len(step) > 0 || depth > len(p.way) {
		return false
	}
	// On the way at this depth is the topic before this one, below the same one.
	if depth < len(p.way) && key < p.way[depth] {
		return false
	}
	above := ""
	if depth > 0 {
		above = p.way[depth-1]
	}
	p.way = append(p.way[:depth], key)
	p.topics = append(p.topics, api.Topic{Key: key, Above: above})
	return true
}
