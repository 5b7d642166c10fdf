package program_test

import (
	"fmt"
	"strings"
	"testing"

	"rebuttal/api"
	"rebuttal/program"
)

const someText = `session am big
  p
  q
session mid tiny
  s
session pm big
  r
  t
`

// plainText writes a programme as the document has it.
func plainText(p []api.Session) string {
	s := ""
	for _, x := range p {
		s += fmt.Sprintf("session %s %s\n", x.Slot, x.Room)
		for _, paper := range x.Papers {
			s += fmt.Sprintf("  %s\n", paper)
		}
	}
	return s
}

// P8.6: Print, and Read of what it writes.
func TestPrint(t *testing.T) {
	for text, p := range map[string][]api.Session{
		"":                           nil,
		someText:                     some(),
		"session am big\n  q\n  p\n": sessions("am big q p"),
		"session am tiny\n  t\nsession zz big\n  r\n": sessions("am tiny t", "zz big r"),
	} {
		is(t, pack(program.Print(example(), p)), all(text, api.OK))
		is(t, pack3(program.Read(example(), text)), all(p, 0, api.OK))
	}
	d := dice(29)
	for range 300 {
		g := d.grid(t, 7, 4, 3)
		p := d.programme(t, g)
		is(t, pack(program.Print(g, p)), all(plainText(p), api.OK))
		is(t, pack3(program.Read(g, plainText(p))), all(p, 0, api.OK))
	}
}

// P8.6: the longest text is far from MaxText.
func TestPrintMost(t *testing.T) {
	long := func(key string) string { return strings.Repeat("k", api.MaxName-len(key)) + key }
	g, p := greatest(), spread()
	for i := range g.Rooms {
		g.Rooms[i].Key = long(g.Rooms[i].Key)
	}
	for i := range g.Slots {
		g.Slots[i].Key = long(g.Slots[i].Key)
	}
	g.Wishes, g.Bans = nil, nil
	for i := range g.Talks {
		g.Talks[i].Paper = long(g.Talks[i].Paper)
		p[i].Slot, p[i].Room, p[i].Papers[0] = long(p[i].Slot), long(p[i].Room), long(p[i].Papers[0])
	}
	is(t, pack(program.Print(g, p)), all(plainText(p), api.OK))
	is(t, pack3(program.Read(g, plainText(p))), all(p, 0, api.OK))
	is(t, len(plainText(p)), 200*(8+40+1+40+1+2+40+1))
}

// P8.6: the first line that has not the form, or cannot be where it is.
func TestReadSyntax(t *testing.T) {
	const head = "session am big\n"
	for text, line := range map[string]int{
		"\n": 0, " \n": 0, "  \n": 0, "x\n": 0, "session\n": 0, "session am\n": 0, "session am big x\n": 0, "session am big \n": 0, "session am  big\n": 0, "session  big\n": 0, "session am \n": 0,
		" session am big\n": 0, "  session am big\n": 0, "Session am big\n": 0, "sessions am big\n": 0, "session\tam big\n": 0, "session am big": 0,
		// Papers.
		"  p\n": 0, "  p\n" + head: 0, head + "p\n": 1, head + " p\n": 1, head + "   p\n": 1, head + "    p\n": 1, head + "  p \n": 1, head + "  p q\n": 1, head + "  \n": 1, head + "\t\tp\n": 1, head + "  p": 1,
		head + "\n": 1, head + "  p\n\n": 2, head + "  p\n  q": 2, head + "  p\nsession am": 2, head + head + "x": 2,
		head + "  session am big\n": 1,
		someText + "\n":             8, someText + "x": 8, someText + " ": 8, strings.TrimSuffix(someText, "\n"): 7,
		// The form is asked for before all checks.
		"session x ?\n  \xff\n  \xff\nsession x ?\nsession \n": 4,
	} {
		p, n, e := program.Read(example(), text)
		if show(all(p, n, e)) != show(all([]api.Session{}, line, api.ErrSyntax)) {
			t.Errorf("%q: %.100s, %d, %d, want line %d", text, show(p), n, e, line)
		}
	}
}

// P8.6: what has the form, and is not right, has the error of Check, and no number.
func TestReadChecks(t *testing.T) {
	const head = "session am big\n"
	for text, want := range map[string]api.Errno{
		head + "  x\n":                              api.ErrNone,
		head + "  \xff\n":                           api.ErrNone,
		head + "  session\n":                        api.ErrNone,
		"session big am\n  p\n":                     api.ErrNone,
		"session am Big\n  p\n":                     api.ErrNone,
		"session am big\r\n  p\n":                   api.ErrNone,
		head + "  p\n" + head + "  q\n":             api.ErrOrder,
		head:                                        api.ErrForm,
		head + "  p\nsession mid tiny\n":            api.ErrForm,
		head + "  p\n  p\n":                         api.ErrTwice,
		head + "  p\n  s\n  t\n":                    api.ErrFull,
		head + "  p\nsession mid big\n  t\n":        api.ErrConflict,
		"session pm big\n  q\n":                     api.ErrState,
		strings.Repeat(head, 801):                   api.ErrLarge,
		strings.Repeat("x", api.MaxText+1):          api.ErrLarge,
		strings.Repeat("\n", api.MaxText+1):         api.ErrLarge,
		someText + strings.Repeat("x", api.MaxText): api.ErrLarge,
	} {
		p, n, e := program.Read(example(), text)
		if show(all(p, n, e)) != show(all([]api.Session{}, 0, want)) {
			t.Errorf("%.60q: %.100s, %d, %d, want %d", text, show(p), n, e, want)
		}
	}
	is(t, pack3(program.Read(example(), strings.Repeat("x", api.MaxText))), all([]api.Session{}, 0, api.ErrSyntax))
	is(t, pack3(program.Read(example(), strings.Repeat("  \n", api.MaxText/3)+"xx")), all([]api.Session{}, 0, api.ErrSyntax))
	for want, g := range wrongGrids() {
		is(t, pack3(program.Read(g, strings.Repeat("x", api.MaxText+1))), all([]api.Session{}, 0, want))
		is(t, pack3(program.Read(g, "x\nx")), all([]api.Session{}, 0, want))
	}
}

// Z10: Read accepts nothing but what Print writes.
func TestReadExactly(t *testing.T) {
	d := dice(31)
	pieces := []string{"", " ", "  ", "\n", "p", "session", "am", "zz", "tiny", "  u\n", "  q\n", "\t", "A", "\xff", "session zz tiny\n", "\n  "}
	accepted := 0
	for range 10_000 {
		from := d.below(len(someText))
		text := someText[:from] + d.pick(pieces) + someText[min(len(someText), from+d.below(5)):]
		p, n, e := program.Read(example(), text)
		if e == api.OK {
			accepted++
			is(t, all(pack(program.Print(example(), p)), n), all(all(text, api.OK), 0))
		}
	}
	is(t, accepted > 150 && accepted < 5000, true)
}
