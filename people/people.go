// Package people says who may not judge what whom wrote.
package people

import (
	"rebuttal/api"
)

// numbers are the places of keys in a list.
func numbers[T any](l []T, key func(T) string) map[string]int {
	m := make(map[string]int, len(l))
	for i, x := range l {
		m[key(x)] = i
	}
	return m
}

func personNumbers(l []api.Person) map[string]int {
	return numbers(l, func(p api.Person) string { return p.Key })
}

func placeNumbers(l []api.Place) map[string]int {
	return numbers(l, func(p api.Place) string { return p.Key })
}

// two are the numbers of two keys; ErrNone if one of them is not known.
func two(number map[string]int, a, b string) (int, int, api.Errno) {
	i, knownA := number[a]
	j, knownB := number[b]
	if !knownA || !knownB {
		return 0, 0, api.ErrNone
	}
	return i, j, api.OK
}

func isDay(day int) bool { return day >= 0 && day <= api.MaxDay }

func checkDay(day int) api.Errno {
	if !isDay(day) {
		return api.ErrArg
	}
	return api.OK
}

// personOn is the number of a person in a world, after the errors of the world, the key and the day.
func personOn(w api.World, key string, day int) (int, api.Errno) {
	if e := Check(w); e != api.OK {
		return 0, e
	}
	i, known := personNumbers(w.People)[key]
	if !known {
		return 0, api.ErrNone
	}
	if e := checkDay(day); e != api.OK {
		return 0, e
	}
	return i, api.OK
}
