package wire

import "wherry/api"

// reader goes through bytes from the first one on. It remembers the first thing that is wrong, and takes nothing behind it.
type reader struct {
	rest  []byte
	wrong api.Errno
}

func (r *reader) refuse(e api.Errno) {
	if r.wrong == api.OK {
		r.wrong = e
	}
}

// end: was all read, and nothing wrong?
func (r *reader) end() api.Errno {
	if len(r.rest) > 0 {
		r.refuse(api.ErrForm)
	}
	return r.wrong
}

// take the next n bytes; none, if something is wrong.
func (r *reader) take(n int) []byte {
	if n > len(r.rest) {
		r.refuse(api.ErrShort)
	}
	if r.wrong != api.OK {
		return nil
	}
	taken := r.rest[:n]
	r.rest = r.rest[n:]
	return taken
}

func (r *reader) number() int {
	n := 0
	for i := range maxDigits {
		b := r.take(1)
		if len(b) == 0 {
			return 0
		}
		n += int(b[0]%more) << (i * digitBits)
		if b[0] < more {
			if b[0] == 0 && i > 0 {
				r.refuse(api.ErrForm)
			}
			return n
		}
	}
	r.refuse(api.ErrForm)
	return 0
}

func (r *reader) text() string { return string(r.take(r.number())) }

// op: no room is made ahead for the parts, since their number may be told far too great.
func (r *reader) op() api.Op {
	var o api.Op
	for n := r.number(); n > 0 && r.wrong == api.OK; n-- {
		o = append(o, r.part())
	}
	return o
}

func (r *reader) part() api.Part {
	p := api.Part{Kind: r.number()}
	if p.Kind == api.Insert {
		p.Text = r.text()
	} else {
		p.N = r.number()
	}
	return p
}

func (r *reader) frame() api.Frame {
	f := api.Frame{Kind: r.number()}
	switch f.Kind {
	case api.Edit:
		f.Heard = r.number()
		f.Op = r.op()
	case api.Whole:
		f.Epoch = r.number()
		f.Text = r.text()
	default:
		f.Epoch = r.number()
		f.Heard = r.number()
	}
	return f
}

func readPacket(r *reader) api.Packet {
	var p api.Packet
	p.Epoch = r.number()
	p.Ack = r.number()
	p.Number = r.number()
	p.Bare = p.Number == 0
	if !p.Bare {
		p.Frame = r.frame()
	}
	return p
}

func readRecord(r *reader) api.Record {
	d := api.Record{Epoch: r.number()}
	if d.Epoch == 0 {
		d.Op = r.op()
	}
	return d
}
