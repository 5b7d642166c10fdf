package submit

import (
	"rebuttal/api"
	"rebuttal/syntax"
)

// CheckCall validates a call.
func CheckCall(c api.Call) api.Errno {
	if !syntax.Moment(c.Opens) {
		return api.ErrArg
	}
	if c.Abstract <= c.Opens || c.Full < c.Abstract {
		return api.ErrOrder
	}
	if c.Full >= api.End {
		return api.ErrArg
	}
	key := func(r api.Reason) string { return r.Key }
	return syntax.RisingBy(c.Reasons, api.MaxReasons, key, func(r api.Reason) api.Errno {
		if r.More < 1 || r.More > api.End {
			return api.ErrArg
		}
		return api.OK
	})
}

// CheckArrival validates an arrival.
func CheckArrival(a api.Arrival) api.Errno {
	if !syntax.Key(a.Paper) {
		return api.ErrName
	}
	if !syntax.Moment(a.At) {
		return api.ErrArg
	}
	if !isKind(a.Kind) {
		return api.ErrKind
	}
	if a.Reason != "" && !syntax.Key(a.Reason) {
		return api.ErrName
	}
	if e := checkText(a.Text); e != api.OK {
		return e
	}
	if a.Kind == api.ArriveBack && (a.Text != "" || a.Reason != "") {
		return api.ErrForm
	}
	return api.OK
}

// Deadline is the moment before which something must come.
func Deadline(c api.Call, kind int, reason string) (int, api.Errno) {
	if e := CheckCall(c); e != api.OK {
		return 0, e
	}
	if !isKind(kind) {
		return 0, api.ErrKind
	}
	moment, known := deadline(c, kind, reason)
	if !known {
		return 0, api.ErrNone
	}
	return moment, api.OK
}

// Counts says whether an arrival counts by itself.
func Counts(c api.Call, a api.Arrival) (int, api.Errno) {
	if e := CheckCall(c); e != api.OK {
		return 0, e
	}
	if e := CheckArrival(a); e != api.OK {
		return 0, e
	}
	return counts(c, a), api.OK
}

func isKind(kind int) bool { return kind >= api.ArriveAbstract && kind <= api.ArriveBack }

func counts(c api.Call, a api.Arrival) int {
	moment, known := deadline(c, a.Kind, a.Reason)
	switch {
	case !known:
		return api.CountsReason
	case a.At < c.Opens:
		return api.CountsEarly
	case a.At >= moment:
		return api.CountsLate
	}
	return api.CountsYes
}

// deadline is false if the call does not have the reason.
func deadline(c api.Call, kind int, reason string) (int, bool) {
	more, known := delay(c.Reasons, reason)
	if !known {
		return 0, false
	}
	switch kind {
	case api.ArriveAbstract:
		return min(c.Abstract+more, api.End), true
	case api.ArriveFull:
		return min(c.Full+more, api.End), true
	}
	return api.End, true
}

// delay is how many minutes later something with a reason may come; an empty reason is none.
func delay(l []api.Reason, reason string) (int, bool) {
	if reason == "" {
		return 0, true
	}
	for _, r := range l {
		if r.Key == reason {
			return r.More, true
		}
	}
	return 0, false
}
