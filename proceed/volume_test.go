package proceed_test

import (
	"fmt"
	"math"
	"slices"
	"strings"
	"testing"

	"rebuttal/api"
	"rebuttal/proceed"
)

// volumed is a volume and its finals.
type volumed struct {
	volume api.Volume
	finals []api.Final
}

func (x volumed) check() api.Errno { return proceed.CheckVolume(x.volume, x.finals) }

// P9.1: volumes, their errors in order.
func TestCheckVolume(t *testing.T) {
	x := volumed{api.Volume{Chapters: slices.Repeat([]api.Chapter{{Papers: []string{"?"}}}, api.MaxParts+1)}, finals("p 0 T a=A", "q 1 T a=A")}
	chapter := func(i int, change func(*api.Chapter)) func(*volumed) {
		return func(x *volumed) { change(&x.volume.Chapters[i]) }
	}
	climb(t, x, volumed.check, []rung[volumed]{
		{api.ErrArg, func(x *volumed) { x.finals[0].Pages = 2 }},
		{api.ErrArg, func(x *volumed) { x.volume.First = api.MaxPages + 1 }},
		{api.ErrArg, func(x *volumed) { x.volume.First = api.MaxPages - 1 }},
		{api.ErrLarge, func(x *volumed) { x.volume.Chapters = slices.Clone(x.volume.Chapters[:3]) }},
		{api.ErrForm, chapter(0, func(c *api.Chapter) { c.Title = "T" })},
		{api.ErrNone, chapter(0, func(c *api.Chapter) { c.Papers = []string{"p", "p", "?"} })},
		{api.ErrTwice, chapter(0, func(c *api.Chapter) { c.Papers = []string{"p"} })},
		{api.ErrForm, chapter(1, func(c *api.Chapter) { c.Title = "T" })},
		{api.ErrNone, chapter(1, func(c *api.Chapter) { c.Papers = nil })},
		{api.ErrForm, chapter(2, func(c *api.Chapter) { c.Title = "T" })},
		{api.ErrNone, chapter(2, func(c *api.Chapter) { c.Papers = []string{"q", "p"} })},
		{api.ErrTwice, chapter(2, func(c *api.Chapter) { c.Papers = []string{"q"} })},
		{api.ErrLarge, func(x *volumed) { x.finals[0].Pages = 1 }},
	})
}

// P9.1: what a volume can be made of.
func TestVolumeBounds(t *testing.T) {
	l := example()
	for n, want := range map[int]api.Errno{1: api.OK, api.MaxPages: api.OK, 0: api.ErrArg, -1: api.ErrArg, api.MaxPages + 1: api.ErrArg, math.MinInt: api.ErrArg, math.MaxInt: api.ErrArg} {
		is(t, proceed.CheckVolume(api.Volume{First: n}, l), want)
		is(t, proceed.CheckVolume(api.Volume{First: n, Right: true}, nil), want)
	}
	for _, title := range append([]string{strings.Repeat("t", api.MaxTitle+1)}, badLabels...) {
		is(t, proceed.CheckVolume(api.Volume{First: 1, Chapters: []api.Chapter{{Title: title}}}, l), api.ErrForm)
	}
	is(t, proceed.CheckVolume(api.Volume{First: 1, Chapters: []api.Chapter{{Title: strings.Repeat("t", api.MaxTitle)}}}, l), api.OK)
	most := slices.Repeat(chapters("T"), api.MaxParts)
	is(t, proceed.CheckVolume(api.Volume{First: 1, Chapters: most}, l), api.OK)
	is(t, proceed.CheckVolume(api.Volume{First: 1, Chapters: append(most, api.Chapter{})}, l), api.ErrLarge)
	for _, c := range []struct {
		first int
		right bool
		lines []string
		want  api.Errno
	}{
		{4998, false, []string{"T p"}, api.OK},
		{4999, false, []string{"T p"}, api.ErrLarge},
		{4997, true, []string{"T p"}, api.OK},
		{4998, true, []string{"T p"}, api.ErrLarge},
		{5000, false, []string{"T r"}, api.OK},
		{5000, true, []string{"T r"}, api.ErrLarge},
		{4999, true, []string{"T r"}, api.OK},
		{5000, true, []string{"T"}, api.OK},
		{4996, false, []string{"T r q", "U q"}, api.ErrTwice},
		{4998, false, []string{"T r", "U q"}, api.OK},
		{4999, false, []string{"T r", "U q"}, api.ErrLarge},
		{4996, true, []string{"T r", "U q"}, api.OK},
		{4998, true, []string{"T r", "U q"}, api.ErrLarge},
		{4998, false, []string{"T r", "U q p"}, api.ErrLarge},
		{4998, false, []string{"T r q p", "U ?"}, api.ErrNone},
	} {
		is(t, proceed.CheckVolume(api.Volume{First: c.first, Right: c.right, Chapters: chapters(c.lines...)}, l), c.want)
	}
}

// P9.1: where papers are; pages that are empty have none.
func TestPages(t *testing.T) {
	v := bound()
	is(t, pack(proceed.Pages(v, example())), all([]api.Leaf{{Paper: "q", From: 11, To: 12}, {Paper: "p", From: 13, To: 15}, {Paper: "r", From: 17, To: 17}}, api.OK))
	for page, paper := range map[int]string{10: "", 11: "q", 12: "q", 13: "p", 15: "p", 16: "", 17: "r", 18: "", 0: "", -11: "", math.MaxInt: "", math.MinInt: ""} {
		e := api.OK
		if paper == "" {
			e = api.ErrNone
		}
		is(t, pack(proceed.At(v, example(), page)), all(paper, e))
	}
	v.Right = false
	is(t, pack(proceed.Pages(v, example())), all([]api.Leaf{{Paper: "q", From: 10, To: 11}, {Paper: "p", From: 12, To: 14}, {Paper: "r", From: 15, To: 15}}, api.OK))
	v.Right, v.First = true, 11
	is(t, pack(proceed.Pages(v, example())), all([]api.Leaf{{Paper: "q", From: 11, To: 12}, {Paper: "p", From: 13, To: 15}, {Paper: "r", From: 17, To: 17}}, api.OK))
	is(t, pack(proceed.Pages(api.Volume{First: 1}, example())), all([]api.Leaf{}, api.OK))
	is(t, pack(proceed.At(api.Volume{First: 1}, example(), 1)), all("", api.ErrNone))
}

// P9.1: contents.
func TestContents(t *testing.T) {
	is(t, pack(proceed.Contents(bound(), example())), all("Plants\n  On roots  11\n  On trees  13\nEmpty\nOthers\n  On moss  17\n", api.OK))
	is(t, pack(proceed.Contents(api.Volume{First: 1}, example())), all("", api.OK))
	is(t, pack(proceed.Contents(api.Volume{First: 1, Chapters: chapters("A_B")}, nil)), all("A B\n", api.OK))
	// The longest contents are far from MaxText.
	title := strings.Repeat("t", api.MaxTitle)
	l := many(api.MaxPapers)
	for i := range l {
		l[i].Title = title
	}
	v := api.Volume{First: 1000, Chapters: []api.Chapter{{Title: title, Papers: keys(api.MaxPapers)}}}
	v.Chapters = append(v.Chapters, slices.Repeat([]api.Chapter{{Title: title}}, api.MaxParts-1)...)
	s, e := proceed.Contents(v, l)
	is(t, all(len(s), e), all(api.MaxParts*(api.MaxTitle+1)+api.MaxPapers*(2+api.MaxTitle+2+4+1), api.OK))
}

// P9.1: pages and contents as the document has them.
func TestPagesPlainly(t *testing.T) {
	d := dice(5)
	for range 500 {
		l := d.finals(t)
		v := d.volume(t, l)
		leaves := plainPages(v, l)
		is(t, pack(proceed.Pages(v, l)), all(leaves, api.OK))
		for page := range 60 {
			want := all("", api.ErrNone)
			for _, leaf := range leaves {
				if leaf.From <= page && page <= leaf.To {
					want = all(leaf.Paper, api.OK)
				}
			}
			is(t, pack(proceed.At(v, l, page)), want)
		}
		contents := ""
		for _, c := range v.Chapters {
			contents += c.Title + "\n"
			for _, paper := range c.Papers {
				f, _ := plainFinal(l, paper)
				leaf, _ := plainLeaf(v, l, paper)
				contents += fmt.Sprintf("  %s  %d\n", f.Title, leaf.From)
			}
		}
		is(t, pack(proceed.Contents(v, l)), all(contents, api.OK))
	}
}

// P9.1: all functions with a volume have its errors first.
func TestVolumeFirst(t *testing.T) {
	l := example()
	for want, x := range map[api.Errno]volumed{
		api.ErrArg:   {api.Volume{}, l},
		api.ErrNone:  {api.Volume{First: 1, Chapters: chapters("T p x")}, l},
		api.ErrTwice: {api.Volume{First: 1, Chapters: chapters("T p p")}, l},
		api.ErrForm:  {api.Volume{First: 1, Chapters: chapters("T p", "_")}, l},
		api.ErrLarge: {api.Volume{First: 5000, Chapters: chapters("T p")}, l},
		api.ErrOrder: {bound(), finals("q 1 T a=A", "p 1 T a=A")},
	} {
		is(t, x.check(), want)
		is(t, pack(proceed.Pages(x.volume, x.finals)), all([]api.Leaf{}, want))
		is(t, pack(proceed.At(x.volume, x.finals, -1)), all("", want))
		is(t, pack(proceed.Contents(x.volume, x.finals)), all("", want))
		is(t, pack(proceed.Index(x.volume, x.finals)), all([]api.Listed{}, want))
		is(t, pack(proceed.Cite(x.volume, x.finals, "?")), all("", want))
	}
}
