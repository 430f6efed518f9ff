package text

import (
	"fmt"

	"wherry/api"
)

func keep(n int) api.Part      { return api.Part{Kind: api.Keep, N: n} }
func remove(n int) api.Part    { return api.Part{Kind: api.Delete, N: n} }
func insert(s string) api.Part { return api.Part{Kind: api.Insert, Text: s} }

// plan: an operation as told rune by rune: what is inserted ahead of each rune of the text, and behind the last one; which runes are deleted.
type plan struct {
	inserted []string
	deleted  []bool
}

// steps: one rune each, 'k', 'd', or 'i' with a rune.
type step struct {
	what byte
	rune string
}

func times(what byte, n int) []step {
	var l []step
	for range n {
		l = append(l, step{what, ""})
	}
	return l
}

func inserting(s string) []step {
	var l []step
	for _, r := range s {
		l = append(l, step{'i', string(r)})
	}
	return l
}

// opOf steps: a slow and plain reading of P1.4, by which the program's answers are judged.
func opOf(l []step) api.Op {
	var o api.Op
	for len(l) > 0 {
		n := 0
		for n < len(l) && l[n].what == 'k' {
			n++
		}
		if n > 0 {
			o = append(o, keep(n))
			l = l[n:]
		}
		s, d := "", 0
		for len(l) > 0 && l[0].what != 'k' {
			s += l[0].rune
			if l[0].what == 'd' {
				d++
			}
			l = l[1:]
		}
		if s != "" {
			o = append(o, insert(s))
		}
		if d > 0 {
			o = append(o, remove(d))
		}
	}
	return o
}

// planOf an operation.
func planOf(o api.Op) plan {
	p := plan{inserted: []string{""}}
	for _, part := range o {
		for range part.N {
			p.deleted = append(p.deleted, part.Kind == api.Delete)
			p.inserted = append(p.inserted, "")
		}
		p.inserted[len(p.inserted)-1] += part.Text
	}
	return p
}

// cell: a rune, and the place that it had in the first text; -1: it was inserted.
type cell struct {
	rune string
	from int
}

func cellsOf(s string) []cell {
	var l []cell
	for _, r := range s {
		l = append(l, cell{string(r), len(l)})
	}
	return l
}

func (p plan) cells(l []cell) []cell {
	var out []cell
	for i, s := range p.inserted {
		for _, r := range s {
			out = append(out, cell{string(r), -1})
		}
		if i < len(l) && !p.deleted[i] {
			out = append(out, l[i])
		}
	}
	return out
}

func textOf(l []cell) string {
	s := ""
	for _, c := range l {
		s += c.rune
	}
	return s
}

// opBetween: the operation that leads from a text of n runes to these cells.
func opBetween(n int, l []cell) api.Op {
	var steps []step
	next := 0
	for _, c := range l {
		if c.from < 0 {
			steps = append(steps, step{'i', c.rune})
			continue
		}
		steps = append(steps, times('d', c.from-next)...)
		steps = append(steps, step{'k', ""})
		next = c.from + 1
	}
	return opOf(append(steps, times('d', n-next)...))
}

// transformed as P1.7 says, rune by rune.
func transformed(a, b api.Op) (api.Op, api.Op) {
	p, q := planOf(a), planOf(b)
	var x, y []step
	for i := range p.inserted {
		s, t := inserting(p.inserted[i]), inserting(q.inserted[i])
		x = append(append(x, s...), times('k', len(t))...)
		y = append(append(y, times('k', len(s))...), t...)
		if i == len(p.deleted) {
			break
		}
		switch {
		case !p.deleted[i] && !q.deleted[i]:
			x, y = append(x, step{'k', ""}), append(y, step{'k', ""})
		case !q.deleted[i]:
			x = append(x, step{'d', ""})
		case !p.deleted[i]:
			y = append(y, step{'d', ""})
		}
	}
	return opOf(x), opOf(y)
}

// allOps on a text of n runes, with the word, or nothing, inserted at each place.
func allOps(n int, word string) []api.Op {
	var l []api.Op
	seen := map[string]int{}
	for bits := range 1 << (2*n + 1) {
		var steps []step
		for i := range 2*n + 1 {
			set := bits>>i&1 == 1
			switch {
			case i%2 == 0 && set:
				steps = append(steps, inserting(word)...)
			case i%2 == 1 && set:
				steps = append(steps, step{'d', ""})
			case i%2 == 1:
				steps = append(steps, step{'k', ""})
			}
		}
		o := opOf(steps)
		if name := fmt.Sprint(o); seen[name] == 0 {
			seen[name] = 1
			l = append(l, o)
		}
	}
	return l
}

// same: an operation without parts may be nil or not.
func same(a, b api.Op) bool { return fmt.Sprint([]api.Part(a)) == fmt.Sprint([]api.Part(b)) }
