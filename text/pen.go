package text

import "wherry/api"

// pen writes an operation in the one form that may be. What is inserted and deleted waits until a rune is kept, since an insertion that comes later still stands ahead of the deletion.
type pen struct {
	done     api.Op
	inserted []byte
	deleted  int
}

func (p *pen) keep(n int) {
	p.flush()
	if last := len(p.done) - 1; last >= 0 && p.done[last].Kind == api.Keep {
		p.done[last].N += n
		return
	}
	p.done = append(p.done, api.Part{Kind: api.Keep, N: n})
}

func (p *pen) insert(s string) { p.inserted = append(p.inserted, s...) }

func (p *pen) remove(n int) { p.deleted += n }

// flush writes what waits.
func (p *pen) flush() {
	if len(p.inserted) > 0 {
		p.done = append(p.done, api.Part{Kind: api.Insert, Text: string(p.inserted)})
	}
	if p.deleted > 0 {
		p.done = append(p.done, api.Part{Kind: api.Delete, N: p.deleted})
	}
	p.inserted, p.deleted = p.inserted[:0], 0
}

// op that was written.
func (p *pen) op() api.Op {
	p.flush()
	return p.done
}
