package node

import (
	"slices"

	"wherry/api"
	"wherry/edge"
	"wherry/link"
	"wherry/text"
)

const (
	epochsOfABirth = 4096
	lastEpoch      = api.MaxNumber - 1
)

// none: the place of no side.
const none = -1

// work: a turn that is not over yet. Its node has memory of its own, so that it may be changed in place.
type work api.Turn

func begin(n api.Node) work { return work{Node: copyNode(n)} }

// post packets to a neighbour.
func (w *work) post(to int, packets []api.Packet) {
	for _, p := range packets {
		w.Posts = append(w.Posts, api.Post{To: to, Packet: p})
	}
}

// send a frame on a side.
func (w *work) send(at int, f api.Frame) {
	s := &w.Node.Sides[at]
	next, packets, e := link.Send(s.Link, f)
	if e != api.OK {
		return
	}
	s.Link = next
	w.post(s.Peer, packets)
}

// open a side's link anew. An epoch that a node or a packet has is never refused.
func (w *work) open(at, epoch int) {
	w.Node.Sides[at].Link, _ = link.Open(epoch)
}

// join: the parent is asked for the text.
func (w *work) join() {
	w.open(0, w.Node.Epoch)
	w.send(0, api.Frame{Kind: api.Join, Epoch: w.Node.Epoch, Heard: w.Node.Up})
}

// edit: what is done at the node itself, and the operation that brings the text back. What Invert takes Apply takes too.
func edit(n api.Node, o api.Op) (work, api.Op, api.Errno) {
	back, e := text.Invert(n.Text, o)
	if e != api.OK {
		return work{}, nil, e
	}
	if isTooLong(o) || lags(n) {
		return work{}, nil, api.ErrFull
	}
	w := begin(n)
	w.Node.Text, _ = text.Apply(n.Text, o)
	w.moveMarks(o, true)
	w.spread(o, none)
	return w, back, api.OK
}

// isTooLong: what only deletes may leave any length, so that a long text can be made shorter.
func isTooLong(o api.Op) bool {
	_, to := text.Lengths(o)
	return to > api.MaxEdit && slices.ContainsFunc(o, func(p api.Part) bool { return p.Kind == api.Insert })
}

// lags: is there a neighbour that does not know of too many operations?
func lags(n api.Node) bool {
	return slices.ContainsFunc(n.Sides, func(s api.Side) bool { return len(s.Edge.Pending) >= api.MaxPending })
}

// moveMarks behind an operation of the text that they are in, so that nothing is refused.
func (w *work) moveMarks(o api.Op, push bool) {
	for i, m := range w.Node.Marks {
		m.Anchor, _ = text.Move(m.Anchor, o, push)
		m.Head, _ = text.Move(m.Head, o, push)
		w.Node.Marks[i] = m
	}
}

// spread an operation: the root writes it, and it goes to all that are Joined but the one that it came from.
func (w *work) spread(o api.Op, from int) {
	if w.Node.Me == root {
		w.Records = append(w.Records, api.Record{Op: copyOp(o)})
	}
	eachSide(w.Node, func(at int, s api.Side) {
		if at != from && s.Joined {
			w.tell(at, o)
		}
	})
}

// tell a neighbour of an operation.
func (w *work) tell(at int, o api.Op) {
	s := &w.Node.Sides[at]
	next, e := edge.Send(s.Edge, o)
	if e != api.OK {
		return
	}
	s.Edge = next
	w.send(at, api.Frame{Kind: api.Edit, Heard: next.Heard, Op: o})
}

// remember what brings the text back.
func (w *work) remember(back api.Op) {
	w.Node.Undo = append(w.Node.Undo, back)
	if len(w.Node.Undo) > api.MaxUndo {
		w.Node.Undo = w.Node.Undo[1:]
	}
}

// eachSide of a node is seen, with its place.
func eachSide(n api.Node, see func(at int, s api.Side)) {
	for at, s := range n.Sides {
		see(at, s)
	}
}

// placeOf the side to a neighbour; none, if it is no neighbour.
func placeOf(n api.Node, peer int) int {
	return slices.IndexFunc(n.Sides, func(s api.Side) bool { return s.Peer == peer })
}

// isParent: does this side go to the parent? It stands first.
func isParent(n api.Node, at int) bool { return n.Me != root && at == 0 }
