package proceed_test

import (
	"fmt"
	"slices"
	"strings"
	"testing"

	"rebuttal/api"
	"rebuttal/proceed"
)

// plainFold is the fold of a name.
func plainFold(name string) string {
	folded := ""
	for _, c := range []byte(name) {
		if strings.IndexByte("ABCDEFGHIJKLMNOPQRSTUVWXYZ", c) >= 0 {
			c += 32
		}
		if c > 127 || strings.IndexByte("abcdefghijklmnopqrstuvwxyz0123456789 ", c) >= 0 {
			folded += string([]byte{c})
		}
	}
	return folded
}

// plainIndex looks for the authors of a volume paper by paper, and puts each one where they belong.
func plainIndex(v api.Volume, l []api.Final) []api.Listed {
	var listed []api.Listed
	for _, leaf := range plainPages(v, l) {
		f, _ := plainFinal(l, leaf.Paper)
		for _, c := range f.Credits {
			name := plainSortName(c.Name)
			i := slices.IndexFunc(listed, func(x api.Listed) bool { return x.Name == name && x.Key == c.Key })
			if i < 0 {
				listed = append(listed, api.Listed{Name: name, Key: c.Key})
				i = len(listed) - 1
			}
			listed[i].Pages = append(listed[i].Pages, leaf.From)
		}
	}
	slices.SortFunc(listed, func(a, b api.Listed) int {
		if x, y := plainFold(a.Name), plainFold(b.Name); x != y {
			return strings.Compare(x, y)
		}
		if a.Name != b.Name {
			return strings.Compare(a.Name, b.Name)
		}
		return strings.Compare(a.Key, b.Key)
	})
	return listed
}

// P9.3: the index has a line for each key and each name.
func TestIndex(t *testing.T) {
	is(t, pack(proceed.Index(bound(), example())), all([]api.Listed{
		{Name: "Cruz, Ana", Key: "ann", Pages: []int{17}},
		{Name: "de la Cruz, Ana", Key: "ann", Pages: []int{11, 13}},
		{Name: "Moos, von", Key: "cid", Pages: []int{17}},
		{Name: "Ray, Jean-Luc", Key: "bob", Pages: []int{13, 17}},
	}, api.OK))
	is(t, pack(proceed.Index(api.Volume{First: 1, Chapters: chapters("T")}, example())), all([]api.Listed{}, api.OK))
}

// P9.3: the index is sorted by folds, then by names, then by keys.
func TestIndexOrder(t *testing.T) {
	names := []string{"-", "_", "'", "9", "0", "A B", "A-B", "A.B", "AB", "Ab", "aB", "ab", "ab c", "abc", "B", "O'Neil", "ONeil", "oneil", "Z", "z", "{", "\u0080", "Ä", "ä", "É"}
	want := []string{"'", "-", "_", "{", "0", "9", "A-B", "A.B", "AB", "Ab", "aB", "ab", "abc", "B", "B, A", "c, ab", "O'Neil", "ONeil", "oneil", "Z", "z", "\u0080", "Ä", "É", "ä"}
	d := dice(11)
	for range 20 {
		var l []api.Final
		for i, name := range shuffled(&d, names) {
			l = append(l, api.Final{Paper: fmt.Sprintf("p%02d", i), Title: "T", Pages: 1, Credits: []api.Credit{{Key: "z", Name: name}, {Key: "a", Name: name}}})
		}
		v := api.Volume{First: 1, Chapters: []api.Chapter{{Title: "T"}}}
		for _, f := range l {
			v.Chapters[0].Papers = append(v.Chapters[0].Papers, f.Paper)
		}
		listed, e := proceed.Index(v, l)
		is(t, e, api.OK)
		var got []string
		for i, x := range listed {
			is(t, x.Key, []string{"a", "z"}[i%2])
			if i%2 == 0 {
				got = append(got, x.Name)
			}
		}
		is(t, got, want)
	}
}

// P9.3: who is cited, and with which pages.
func TestCite(t *testing.T) {
	for paper, want := range map[string]string{
		"p": "A. de la Cruz and J-L. Ray: On trees, 13-15",
		"q": "A. de la Cruz: On roots, 11-12",
		"r": "v. Moos, A. Cruz and J-L. Ray: On moss, 17",
	} {
		is(t, pack(proceed.Cite(bound(), example(), paper)), all(want, api.OK))
	}
	for _, paper := range append([]string{"s", "x", "P"}, badKeys...) {
		is(t, pack(proceed.Cite(bound(), example(), paper)), all("", api.ErrNone))
	}
	is(t, pack(proceed.Cite(api.Volume{First: 9, Chapters: chapters("T p")}, finals("p 1 T a=A_B b=C c=D_E f=F_de_G"), "p")), all("A. B, C, D. E and F. de G: T, 9", api.OK))
}

// P9.3: indexes and citations as the document has them.
func TestIndexPlainly(t *testing.T) {
	d := dice(13)
	for range 1000 {
		l := d.finals(t)
		v := d.volume(t, l)
		is(t, pack(proceed.Index(v, l)), all(plainIndex(v, l), api.OK))
		for _, paper := range somePapers {
			leaf, there := plainLeaf(v, l, paper)
			if !there {
				is(t, pack(proceed.Cite(v, l, paper)), all("", api.ErrNone))
				continue
			}
			f, _ := plainFinal(l, paper)
			want := ""
			for i, c := range f.Credits {
				switch i {
				case 0:
				case len(f.Credits) - 1:
					want += " and "
				default:
					want += ", "
				}
				want += plainInitials(c.Name)
			}
			want += fmt.Sprintf(": %s, %d", f.Title, leaf.From)
			if leaf.To != leaf.From {
				want += fmt.Sprintf("-%d", leaf.To)
			}
			is(t, pack(proceed.Cite(v, l, paper)), all(want, api.OK))
		}
	}
}

// P9.3: each credit of a paper in the chapters is in the index with its page.
func TestEachCreditIsListed(t *testing.T) {
	d := dice(17)
	for range 300 {
		l := d.finals(t)
		v := d.volume(t, l)
		listed, _ := proceed.Index(v, l)
		leaves, _ := proceed.Pages(v, l)
		many := 0
		for _, leaf := range leaves {
			f, _ := plainFinal(l, leaf.Paper)
			for _, c := range f.Credits {
				many++
				is(t, slices.ContainsFunc(listed, func(x api.Listed) bool {
					return x.Key == c.Key && slices.Contains(x.Pages, leaf.From)
				}), true)
			}
		}
		for _, x := range listed {
			many -= len(x.Pages)
			is(t, slices.IsSorted(x.Pages), true)
		}
		is(t, many, 0)
	}
}
