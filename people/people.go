// Package people says who may not judge what whom wrote.
package people

import (
	"rebuttal/api"
	"rebuttal/index"
)

func personNumbers(l []api.Person) map[string]int { return index.Of(l, personKey) }

func placeNumbers(l []api.Place) map[string]int { return index.Of(l, placeKey) }

func personKey(p api.Person) string { return p.Key }

func placeKey(p api.Place) string { return p.Key }

func isDay(day int) bool { return day >= 0 && day <= api.MaxDay }

func checkDay(day int) api.Errno {
	if !isDay(day) {
		return api.ErrArg
	}
	return api.OK
}

// personOn is the number of a person in a world, after the errors of the world, the key and the day.
func personOn(w api.World, key string, day int) (int, api.Errno) {
	if e := Check(w); e != api.OK {
		return 0, e
	}
	i, known := personNumbers(w.People)[key]
	if !known {
		return 0, api.ErrNone
	}
	if e := checkDay(day); e != api.OK {
		return 0, e
	}
	return i, api.OK
}
