// Package text: operations on texts.
package text

import (
	"strings"
	"unicode/utf8"

	"wherry/api"
)

// CheckText: may it be?
func CheckText(s string) api.Errno {
	if !utf8.ValidString(s) {
		return api.ErrForm
	}
	if utf8.RuneCountInString(s) > api.MaxText {
		return api.ErrSize
	}
	return api.OK
}

// Lengths of the texts that an operation begins with, and ends with.
func Lengths(o api.Op) (from, to int) {
	for _, p := range o {
		switch p.Kind {
		case api.Keep:
			from += p.N
			to += p.N
		case api.Delete:
			from += p.N
		case api.Insert:
			to += utf8.RuneCountInString(p.Text)
		}
	}
	return from, to
}

// Apply an operation to a text.
func Apply(s string, o api.Op) (string, api.Errno) {
	if e := checkApply(s, o); e != api.OK {
		return "", e
	}
	var out strings.Builder
	for _, p := range o {
		switch p.Kind {
		case api.Keep:
			head, rest := split(s, p.N)
			out.WriteString(head)
			s = rest
		case api.Delete:
			_, s = split(s, p.N)
		case api.Insert:
			out.WriteString(p.Text)
		}
	}
	return out.String(), api.OK
}

// Invert an operation, given the text that it begins with.
func Invert(s string, o api.Op) (api.Op, api.Errno) {
	if e := checkApply(s, o); e != api.OK {
		return nil, e
	}
	var out pen
	for _, p := range o {
		switch p.Kind {
		case api.Keep:
			out.keep(p.N)
			_, s = split(s, p.N)
		case api.Delete:
			head, rest := split(s, p.N)
			out.insert(head)
			s = rest
		case api.Insert:
			out.remove(utf8.RuneCountInString(p.Text))
		}
	}
	return out.op(), api.OK
}

// Transform two operations of one text: each as it is behind the other one; where both insert, the first one's text stands ahead.
func Transform(a, b api.Op) (api.Op, api.Op, api.Errno) {
	if e := checkBoth(a, b); e != api.OK {
		return nil, nil, e
	}
	fromA, _ := Lengths(a)
	fromB, _ := Lengths(b)
	if fromA != fromB {
		return nil, nil, api.ErrMatch
	}
	a, b = transform(a, b)
	if e := checkBoth(a, b); e != api.OK {
		return nil, nil, e
	}
	return a, b, api.OK
}

// Compose two operations, one behind the other, into one.
func Compose(a, b api.Op) (api.Op, api.Errno) {
	if e := checkBoth(a, b); e != api.OK {
		return nil, e
	}
	_, between := Lengths(a)
	if from, _ := Lengths(b); from != between {
		return nil, api.ErrMatch
	}
	o := compose(a, b)
	if e := Check(o); e != api.OK {
		return nil, e
	}
	return o, api.OK
}

// Move a place in a text by an operation: what is inserted right there stands behind it, or (push) ahead of it.
func Move(at int, o api.Op, push bool) (int, api.Errno) {
	if e := Check(o); e != api.OK {
		return 0, e
	}
	if from, _ := Lengths(o); at < 0 || at > from {
		return 0, api.ErrRange
	}
	left, moved := at, 0 // left: runes ahead of the place that the operation did not reach yet
	for _, p := range o {
		switch p.Kind {
		case api.Keep:
			moved += min(p.N, max(left, 0))
			left -= p.N
		case api.Delete:
			left -= p.N
		case api.Insert:
			if left > 0 || left == 0 && push {
				moved += utf8.RuneCountInString(p.Text)
			}
		}
	}
	return moved, api.OK
}

// Whole: the operation that makes a text of another one.
func Whole(from, to string) (api.Op, api.Errno) {
	if e := CheckText(from); e != api.OK {
		return nil, e
	}
	if e := CheckText(to); e != api.OK {
		return nil, e
	}
	var out pen
	out.insert(to)
	out.remove(utf8.RuneCountInString(from))
	return out.op(), api.OK
}
