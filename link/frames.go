package link

import "wherry/api"

// eachSent: those of Sent are seen in their order, each with its number.
func eachSent(l api.Link, see func(number int, f api.Frame)) {
	first := l.Next - len(l.Sent)
	for i, f := range l.Sent {
		see(first+i, f)
	}
}

// behind an Ack: a link of its own memory, without those that are known to have come. (An Ack of 0 takes none: no frame has that number.)
func behind(l api.Link, ack int) api.Link {
	next := api.Link{Epoch: l.Epoch, Next: l.Next, Heard: l.Heard}
	came := 0
	eachSent(l, func(number int, f api.Frame) {
		if number == ack {
			came = ack
		}
	})
	eachSent(l, func(number int, f api.Frame) {
		if number > came {
			next.Sent = append(next.Sent, copyOf(f))
		}
	})
	for _, f := range l.Queue {
		next.Queue = append(next.Queue, copyOf(f))
	}
	return next
}

// goOn: what waits goes, as far as there is room. The lists of the link are the caller's own, since they are cut and grown here.
func goOn(l api.Link) (api.Link, []api.Packet) {
	var packets []api.Packet
	for len(l.Queue) > 0 && len(l.Sent) < api.MaxWindow && l.Next < api.MaxNumber {
		f := l.Queue[0]
		packets = append(packets, packetOf(l, l.Next, f))
		l.Sent = append(l.Sent, f)
		l.Queue = l.Queue[1:]
		l.Next++
	}
	return l, packets
}

// packetOf a frame, of its own memory.
func packetOf(l api.Link, number int, f api.Frame) api.Packet {
	return api.Packet{Epoch: l.Epoch, Number: number, Ack: l.Heard, Frame: copyOf(f)}
}

func bare(l api.Link) api.Packet {
	return api.Packet{Epoch: l.Epoch, Bare: true, Ack: l.Heard}
}

func copyOf(f api.Frame) api.Frame {
	f.Op = append(api.Op(nil), f.Op...)
	return f
}
