package proceed

import (
	"cmp"
	"slices"
	"strconv"
	"strings"

	"rebuttal/api"
)

// author is somebody as the index has them.
type author struct{ name, key string }

// Index are the authors of a volume.
func Index(v api.Volume, l []api.Final) ([]api.Listed, api.Errno) {
	x, e := newVolume(v, l)
	if e != api.OK {
		return nil, e
	}
	pages := map[author][]int{}
	for _, p := range x.papers {
		for _, c := range p.Credits {
			a := author{sortName(c.Name), c.Key}
			pages[a] = append(pages[a], p.from)
		}
	}
	var listed []api.Listed
	for a, from := range pages {
		listed = append(listed, api.Listed{Name: a.name, Key: a.key, Pages: from})
	}
	slices.SortFunc(listed, compareListed)
	return listed, api.OK
}

// Cite cites a paper.
func Cite(v api.Volume, l []api.Final, paper string) (string, api.Errno) {
	x, e := newVolume(v, l)
	if e != api.OK {
		return "", e
	}
	i, there := x.number[paper]
	if !there {
		return "", api.ErrNone
	}
	p := x.papers[i]
	pages := strconv.Itoa(p.from)
	if p.to > p.from {
		pages += "-" + strconv.Itoa(p.to)
	}
	return authors(p.Credits) + ": " + p.Title + ", " + pages, api.OK
}

// authors are those of a paper as they are cited.
func authors(l []api.Credit) string {
	var names []string
	for _, c := range l {
		names = append(names, initials(c.Name))
	}
	last := len(names) - 1
	if last == 0 {
		return names[last]
	}
	return strings.Join(names[:last], ", ") + " and " + names[last]
}

func compareListed(a, b api.Listed) int {
	return cmp.Or(
		strings.Compare(fold(a.Name), fold(b.Name)),
		strings.Compare(a.Name, b.Name),
		strings.Compare(a.Key, b.Key),
	)
}

// fold is a name with what matters first when names are sorted.
func fold(name string) string {
	var folded []byte
	for i := range len(name) {
		c := name[i]
		if c >= 'A' && c <= 'Z' {
			c += 'a' - 'A'
		}
		if c >= 'a' && c <= 'z' || c >= '0' && c <= '9' || c == ' ' || c > 127 {
			folded = append(folded, c)
		}
	}
	return string(folded)
}
