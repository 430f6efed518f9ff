package text

import "wherry/api"

// transform two operations that may be. Since they begin with one length, neither of them ends while the other one has runes of the text left.
func transform(a, b api.Op) (api.Op, api.Op) {
	x, y := begin(a), begin(b)
	var p, q pen
	for x.head.n > 0 || y.head.n > 0 {
		switch {
		case x.head.kind == api.Insert:
			s := x.takeAll()
			p.insert(s.text)
			q.keep(s.n)
		case y.head.kind == api.Insert:
			s := y.takeAll()
			p.keep(s.n)
			q.insert(s.text)
		default:
			n := min(x.head.n, y.head.n)
			meet(x.take(n), y.take(n), &p, &q)
		}
	}
	return p.op(), q.op()
}

// meet of two pieces on the same runes: what the other one deleted is there no more.
func meet(x, y piece, p, q *pen) {
	switch {
	case x.kind == api.Keep && y.kind == api.Keep:
		p.keep(x.n)
		q.keep(x.n)
	case x.kind == api.Delete && y.kind == api.Keep:
		p.remove(x.n)
	case x.kind == api.Keep && y.kind == api.Delete:
		q.remove(x.n)
	}
}

// compose two operations that may be. Since the second one begins as long as the first one ends, neither of them ends while the other one has runes between them left.
func compose(a, b api.Op) api.Op {
	x, y := begin(a), begin(b)
	var p pen
	for x.head.n > 0 || y.head.n > 0 {
		switch {
		case x.head.kind == api.Delete:
			p.remove(x.takeAll().n)
		case y.head.kind == api.Insert:
			p.insert(y.takeAll().text)
		default:
			n := min(x.head.n, y.head.n)
			join(x.take(n), y.take(n), &p)
		}
	}
	return p.op()
}

// join two pieces, of which the second one is what becomes of the runes of the first one.
func join(x, y piece, p *pen) {
	switch {
	case x.kind == api.Insert && y.kind == api.Keep:
		p.insert(x.text)
	case x.kind == api.Keep && y.kind == api.Keep:
		p.keep(x.n)
	case x.kind == api.Keep && y.kind == api.Delete:
		p.remove(x.n)
	}
}
