package wire

import "wherry/api"

// A number's digits have so many bits; a byte with the mark more on it is not the last one; more than so many bytes it never has.
const (
	digitBits = 7
	more      = 1 << digitBits
	maxDigits = 4
)

// writer of what may be: its numbers all fit into maxDigits.
type writer struct{ done []byte }

func (w *writer) number(n int) {
	for n >= more {
		w.done = append(w.done, byte(n%more+more))
		n /= more
	}
	w.done = append(w.done, byte(n))
}

func (w *writer) text(s string) {
	w.number(len(s))
	w.done = append(w.done, s...)
}

func (w *writer) op(o api.Op) {
	w.number(len(o))
	for _, p := range o {
		w.number(p.Kind)
		if p.Kind == api.Insert {
			w.text(p.Text)
		} else {
			w.number(p.N)
		}
	}
}

func (w *writer) frame(f api.Frame) {
	w.number(f.Kind)
	switch f.Kind {
	case api.Edit:
		w.number(f.Heard)
		w.op(f.Op)
	case api.Join:
		w.number(f.Epoch)
		w.number(f.Heard)
	case api.Whole:
		w.number(f.Epoch)
		w.text(f.Text)
	}
}

func (w *writer) packet(p api.Packet) {
	w.number(p.Epoch)
	w.number(p.Ack)
	w.number(p.Number)
	if !p.Bare {
		w.frame(p.Frame)
	}
}

func (w *writer) record(r api.Record) {
	w.number(r.Epoch)
	if r.Epoch == 0 {
		w.op(r.Op)
	}
}
