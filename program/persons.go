package program

import (
	"math/bits"

	"rebuttal/api"
)

// wordBits is how many bits each word of persons has.
const wordBits = 64

// persons is a set of those who wish something. Each one is a bit: that with the number of their wish.
type persons [(api.MaxWishes + wordBits - 1) / wordBits]uint64

func (p *persons) add(person int) { p[person/wordBits] |= 1 << (person % wordBits) }

func (p persons) has(person int) bool { return p[person/wordBits]>>(person%wordBits)&1 == 1 }

// and are those who are in both sets.
func (p persons) and(q persons) persons {
	for i, word := range q {
		p[i] &= word
	}
	return p
}

// or are those who are in at least one of two sets.
func (p persons) or(q persons) persons {
	for i, word := range q {
		p[i] |= word
	}
	return p
}

func (p persons) many() int {
	many := 0
	for _, word := range p {
		many += bits.OnesCount64(word)
	}
	return many
}
