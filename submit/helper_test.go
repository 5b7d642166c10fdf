package submit_test

import (
	"fmt"
	"slices"
	"strings"
	"testing"

	"rebuttal/api"
)

// show writes a value so that nil and empty lists are the same (Z5).
func show(v any) string {
	return strings.ReplaceAll(fmt.Sprintf("%#v", v), "(nil)", "{}")
}

func is(t *testing.T, got, want any) {
	t.Helper()
	if g, w := show(got), show(want); g != w {
		t.Errorf("got %s, want %s", g, w)
	}
}

// all makes a list of the results of a call.
func all(l ...any) []any { return l }

// rung is the error that a value has, and how it is put right.
type rung[T any] struct {
	want api.Errno
	fix  func(*T)
}

// climb puts right what is wrong with a value, one after the other, and asks for the error before each step.
func climb[T any](t *testing.T, x T, check func(T) api.Errno, rungs []rung[T]) {
	t.Helper()
	for i, r := range rungs {
		if e := check(x); e != r.want {
			t.Errorf("rung %d: got %d, want %d: %s", i, e, r.want, show(x))
		}
		r.fix(&x)
	}
	if e := check(x); e != api.OK {
		t.Errorf("at the end: got %d: %s", e, show(x))
	}
}

// keys are so many, in order.
func keys(n int) []string {
	l := []string{}
	for i := range n {
		l = append(l, fmt.Sprintf("k%04d", i))
	}
	return l
}

// dice is a row of numbers that look thrown, and are the same each time.
type dice uint64

func (d *dice) below(n int) int {
	*d = *d*6364136223846793005 + 1442695040888963407
	return int(uint64(*d)>>33) % n
}

func (d *dice) pick(l []string) string { return l[d.below(len(l))] }

func shuffled[T any](d *dice, l []T) []T {
	l = slices.Clone(l)
	for i := range l {
		j := i + d.below(len(l)-i)
		l[i], l[j] = l[j], l[i]
	}
	return l
}

// text is one of up to n pieces.
func (d *dice) text(n int, pieces []string) string {
	var b strings.Builder
	for range d.below(n + 1) {
		b.WriteString(d.pick(pieces))
	}
	if b.Len() > 0 {
		b.WriteByte('\n')
	}
	return b.String()
}

// badTexts are strings that are no texts.
var badTexts = []string{"a", " ", "\n ", "a\nb", "\x00\n", "a\tb\n", "\r\n", "\x1f\n", "\x7f\n", "\xff\n", "\xc0\x80\n", "\xed\xa0\x80\n", "\xe2\x82\n"}

// badKeys are strings that are no keys.
var badKeys = []string{"", "A", "0", "-a", "_a", "a b", "a.", "ä", "a\n", "aB", strings.Repeat("k", api.MaxName+1)}
