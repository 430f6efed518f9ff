package text

import (
	"unicode/utf8"

	"wherry/api"
)

// piece of a part: unlike a part, an Insert tells its runes here, so that all kinds are cut alike.
type piece struct {
	kind int
	n    int
	text string
}

// walk goes through an operation in pieces of any length. At the end its head is empty.
type walk struct {
	head piece
	rest api.Op
}

func begin(o api.Op) walk {
	w := walk{rest: o}
	w.step()
	return w
}

// step to the next part.
func (w *walk) step() {
	w.head = piece{}
	if len(w.rest) == 0 {
		return
	}
	p := w.rest[0]
	w.head = piece{kind: p.Kind, n: p.N, text: p.Text}
	if p.Kind == api.Insert {
		w.head.n = utf8.RuneCountInString(p.Text)
	}
	w.rest = w.rest[1:]
}

// take the next n runes, at most those of the head.
func (w *walk) take(n int) piece {
	p := w.head
	if n >= p.n {
		w.step()
		return p
	}
	w.head.n -= n
	p.n = n
	p.text, w.head.text = split(p.text, n)
	return p
}

// takeAll of the head.
func (w *walk) takeAll() piece { return w.take(w.head.n) }

// split a text behind its first n runes.
func split(s string, n int) (string, string) {
	for i := range s {
		if n == 0 {
			return s[:i], s[i:]
		}
		n--
	}
	return s, ""
}
