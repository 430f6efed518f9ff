package text

import (
	"unicode/utf8"

	"wherry/api"
)

// Check an operation.
func Check(o api.Op) api.Errno {
	if len(o) > api.MaxParts {
		return api.ErrSize
	}
	ahead := 0 // no kind has this number: anything may be the first part
	for _, p := range o {
		if e := checkPart(ahead, p); e != api.OK {
			return e
		}
		ahead = p.Kind
	}
	if from, to := Lengths(o); from > api.MaxText || to > api.MaxText {
		return api.ErrSize
	}
	return api.OK
}

// checkPart: may it be, behind a part of the kind ahead?
func checkPart(ahead int, p api.Part) api.Errno {
	e := api.ErrKind
	switch p.Kind {
	case api.Keep, api.Delete:
		e = checkCount(p)
	case api.Insert:
		e = checkInsert(p)
	}
	if e != api.OK {
		return e
	}
	if ahead == p.Kind || ahead == api.Delete && p.Kind == api.Insert {
		return api.ErrForm
	}
	return api.OK
}

// checkCount of a Keep or a Delete.
func checkCount(p api.Part) api.Errno {
	if p.N < 1 || p.N > api.MaxText {
		return api.ErrRange
	}
	if p.Text != "" {
		return api.ErrForm
	}
	return api.OK
}

func checkInsert(p api.Part) api.Errno {
	if e := CheckText(p.Text); e != api.OK {
		return e
	}
	if p.Text == "" || p.N != 0 {
		return api.ErrForm
	}
	return api.OK
}

// checkBoth: the first one that may not be tells.
func checkBoth(a, b api.Op) api.Errno {
	if e := Check(a); e != api.OK {
		return e
	}
	return Check(b)
}

// checkApply: is it an operation of this text?
func checkApply(s string, o api.Op) api.Errno {
	if e := CheckText(s); e != api.OK {
		return e
	}
	if e := Check(o); e != api.OK {
		return e
	}
	if from, _ := Lengths(o); from != utf8.RuneCountInString(s) {
		return api.ErrMatch
	}
	return api.OK
}
