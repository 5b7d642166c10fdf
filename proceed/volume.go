package proceed

import (
	"strconv"

	"rebuttal/api"
	"rebuttal/index"
	"rebuttal/syntax"
)

// gap is before the title of a paper in the contents, and before its page.
const gap = "  "

// CheckVolume validates a volume.
func CheckVolume(v api.Volume, l []api.Final) api.Errno {
	_, e := newVolume(v, l)
	return e
}

// Pages are the pages of all papers.
func Pages(v api.Volume, l []api.Final) ([]api.Leaf, api.Errno) {
	x, e := newVolume(v, l)
	if e != api.OK {
		return nil, e
	}
	var leaves []api.Leaf
	for _, p := range x.papers {
		leaves = append(leaves, api.Leaf{Paper: p.Paper, From: p.from, To: p.to})
	}
	return leaves, api.OK
}

// At is the paper on a page.
func At(v api.Volume, l []api.Final, page int) (string, api.Errno) {
	x, e := newVolume(v, l)
	if e != api.OK {
		return "", e
	}
	for _, p := range x.papers {
		if p.from <= page && page <= p.to {
			return p.Paper, api.OK
		}
	}
	return "", api.ErrNone
}

// Contents are the contents of a volume.
func Contents(v api.Volume, l []api.Final) (string, api.Errno) {
	x, e := newVolume(v, l)
	if e != api.OK {
		return "", e
	}
	return syntax.Write(v.Chapters, func(c api.Chapter) string {
		written := syntax.Line(c.Title)
		for _, paper := range c.Papers {
			p := x.papers[x.number[paper]]
			written += gap + p.Title + gap + syntax.Line(strconv.Itoa(p.from))
		}
		return written
	})
}

// printed is a final, and where it is in a volume: from a page up to, and with, another one.
type printed struct {
	api.Final
	from, to int
}

// volume is what a volume prints, in order, and the number of each paper there.
type volume struct {
	papers []printed
	number map[string]int
}

// newVolume has the errors of CheckVolume.
func newVolume(v api.Volume, l []api.Final) (volume, api.Errno) {
	if e := CheckFinals(l); e != api.OK {
		return volume{}, e
	}
	if v.First < 1 || v.First > api.MaxPages {
		return volume{}, api.ErrArg
	}
	if len(v.Chapters) > api.MaxParts {
		return volume{}, api.ErrLarge
	}
	x := volume{number: map[string]int{}}
	final := index.Of(l, finalKey)
	for _, c := range v.Chapters {
		if e := checkTitle(c.Title); e != api.OK {
			return volume{}, e
		}
		for _, paper := range c.Papers {
			i, known := final[paper]
			if !known {
				return volume{}, api.ErrNone
			}
			if _, there := x.number[paper]; there {
				return volume{}, api.ErrTwice
			}
			x.number[paper] = len(x.papers)
			x.papers = append(x.papers, printed{Final: l[i]})
		}
	}
	if last := x.setPages(v.First, v.Right); last > api.MaxPages {
		return volume{}, api.ErrLarge
	}
	return x, api.OK
}

// setPages gives all papers their pages, from the first one on, and returns the last one.
func (x volume) setPages(first int, right bool) int {
	last := first - 1
	for i := range x.papers {
		p := &x.papers[i]
		p.from = last + 1
		if right && p.from%2 == 0 {
			p.from++
		}
		p.to = p.from + p.Pages - 1
		last = p.to
	}
	return last
}
