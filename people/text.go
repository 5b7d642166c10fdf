package people

import (
	"slices"
	"strconv"
	"strings"

	"rebuttal/api"
	"rebuttal/syntax"
)

// Kinds of lines, in the order in which they come; those from kindName to kindAdviser belong to a person.
const (
	kindNone = iota
	kindPlace
	kindPerson
	kindName
	kindHome
	kindMail
	kindAdviser
	kindWork
	kindBond
)

// maxDigits is how many digits a number in a text has at most.
const maxDigits = 9

// noParent stands for the parent of a place that has none.
const noParent = "-"

// Text writes a world.
func Text(w api.World) (string, api.Errno) {
	if e := Check(w); e != api.OK {
		return "", e
	}
	var b strings.Builder
	line := func(words ...string) {
		b.WriteString(strings.Join(words, " "))
		b.WriteByte('\n')
	}
	for _, p := range w.Places {
		parent := p.Parent
		if parent == "" {
			parent = noParent
		}
		line("place", p.Key, parent)
	}
	for _, p := range w.People {
		writePerson(p, line)
	}
	for _, k := range w.Works {
		line(slices.Concat([]string{"work", strconv.Itoa(k.Day)}, k.Authors)...)
	}
	for _, bond := range w.Bonds {
		line("bond", bond.A, bond.B)
	}
	if b.Len() > api.MaxText {
		return "", api.ErrLarge
	}
	return b.String(), api.OK
}

func writePerson(p api.Person, line func(...string)) {
	line("person", p.Key)
	for _, n := range p.Names {
		line("name", strconv.Itoa(n.From), n.Name)
	}
	for _, h := range p.Homes {
		line("home", h.Place, strconv.Itoa(h.From), strconv.Itoa(h.To))
	}
	for _, m := range p.Mails {
		line("mail", m)
	}
	for _, a := range p.Advisers {
		line("adviser", a)
	}
}

// Read reads a world.
func Read(text string) (api.World, int, api.Errno) {
	var r reader
	if line, e := syntax.Read(text, r.read); e != api.OK {
		return api.World{}, line, e
	}
	w, e := checked(r.world)
	return w, 0, e
}

// reader has the world of the lines so far, and the kind of the last one.
type reader struct {
	world api.World
	last  int
}

// read adds a line, if it has one of the forms, and can be where it is.
func (r *reader) read(line string) bool {
	words := strings.Split(line, " ")
	kind := kindOf(words[0])
	if !r.canBe(kind) {
		return false
	}
	if kind == kindName {
		words = strings.SplitN(line, " ", 3)
	}
	if slices.Contains(words, "") {
		return false
	}
	r.last = kind
	switch kind {
	case kindPlace:
		return r.place(words[1:])
	case kindPerson:
		return r.person(words[1:])
	case kindWork:
		return r.work(words[1:])
	case kindBond:
		return r.bond(words[1:])
	}
	return r.detail(kind, words[1:])
}

func kindOf(word string) int {
	switch word {
	case "place":
		return kindPlace
	case "person":
		return kindPerson
	case "name":
		return kindName
	case "home":
		return kindHome
	case "mail":
		return kindMail
	case "adviser":
		return kindAdviser
	case "work":
		return kindWork
	case "bond":
		return kindBond
	}
	return kindNone
}

// canBe reports whether a line of a kind can be behind the last one.
func (r *reader) canBe(kind int) bool {
	switch {
	case kind == kindNone:
		return false
	case kind == kindPerson:
		return r.last <= kindAdviser
	case kind >= kindName && kind <= kindAdviser:
		return r.last >= kindPerson && r.last <= kind
	}
	return r.last <= kind
}

func (r *reader) place(words []string) bool {
	if len(words) != 2 {
		return false
	}
	p := api.Place{Key: words[0], Parent: words[1]}
	if p.Parent == noParent {
		p.Parent = ""
	}
	r.world.Places = append(r.world.Places, p)
	return true
}

func (r *reader) person(words []string) bool {
	if len(words) != 1 {
		return false
	}
	r.world.People = append(r.world.People, api.Person{Key: words[0]})
	return true
}

// detail adds what belongs to the last person.
func (r *reader) detail(kind int, words []string) bool {
	p := &r.world.People[len(r.world.People)-1]
	switch {
	case kind == kindName && len(words) == 2:
		from, ok := syntax.Number(words[0], maxDigits)
		p.Names = append(p.Names, api.Naming{Name: words[1], From: from})
		return ok
	case kind == kindHome && len(words) == 3:
		from, okFrom := syntax.Number(words[1], maxDigits)
		to, okTo := syntax.Number(words[2], maxDigits)
		p.Homes = append(p.Homes, api.Home{Place: words[0], From: from, To: to})
		return okFrom && okTo
	case kind == kindMail && len(words) == 1:
		p.Mails = append(p.Mails, words[0])
		return true
	case kind == kindAdviser && len(words) == 1:
		p.Advisers = append(p.Advisers, words[0])
		return true
	}
	return false
}

func (r *reader) work(words []string) bool {
	if len(words) < 1 {
		return false
	}
	day, ok := syntax.Number(words[0], maxDigits)
	r.world.Works = append(r.world.Works, api.Work{Day: day, Authors: words[1:]})
	return ok
}

func (r *reader) bond(words []string) bool {
	if len(words) != 2 {
		return false
	}
	r.world.Bonds = append(r.world.Bonds, api.Bond{A: words[0], B: words[1]})
	return true
}
