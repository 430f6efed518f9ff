package node

import (
	"wherry/api"
	"wherry/edge"
	"wherry/link"
	"wherry/text"
)

// hear a packet of a side's session: it goes to the link, and the frame that it tells to the node.
func (w *work) hear(at int, p api.Packet) {
	s := &w.Node.Sides[at]
	next, f, told, sent, e := link.Hear(s.Link, p)
	if e != api.OK {
		return
	}
	s.Link = next
	w.post(s.Peer, sent)
	if told {
		w.take(at, f)
	}
}

// take a frame that was told on a side.
func (w *work) take(at int, f api.Frame) {
	joined := w.Node.Sides[at].Joined
	switch {
	case f.Kind == api.Edit && joined:
		w.takeEdit(at, f)
	case f.Kind == api.Whole && !joined && isParent(w.Node, at) && f.Epoch == w.Node.Epoch:
		w.Node.Ready, w.Node.Text, w.Node.Sides[at].Joined = true, f.Text, true
	}
}

// takeEdit of a neighbour. Until the new text is known nothing is changed.
func (w *work) takeEdit(at int, f api.Frame) {
	next, o, e := edge.Hear(w.Node.Sides[at].Edge, f.Op, f.Heard, !isParent(w.Node, at))
	if e != api.OK {
		return
	}
	s, e := text.Apply(w.Node.Text, o)
	if e != api.OK {
		return
	}
	w.Node.Text, w.Node.Sides[at].Edge = s, next
	w.moveMarks(o, false)
	w.Node.Undo = behind(w.Node.Undo, o)
	w.spread(o, at)
}

// behind an operation: what is to be undone, changed in its place; nothing, if some of it can't be brought there.
func behind(undo []api.Op, o api.Op) []api.Op {
	for i := len(undo) - 1; i >= 0; i-- {
		next, own, e := text.Transform(o, undo[i])
		if e != api.OK {
			return nil
		}
		o, undo[i] = next, own
	}
	return undo
}

// hearStrangeParent: a packet of the parent that is not of the session with it. One of no epoch says that the parent knows no such session: the node joins again.
func hearStrangeParent(t api.Tree, n api.Node, p api.Packet) (api.Turn, api.Errno) {
	if p.Epoch != 0 {
		return api.Turn{}, api.ErrAway
	}
	w := work{Node: api.Node{Me: n.Me, Epoch: min(n.Epoch+1, lastEpoch), Up: p.Ack, Sides: newSides(t, n.Me)}}
	w.join()
	return api.Turn(w), api.OK
}

// hearStrangeChild: a packet of a child that is not of the session with it. A child that knows this node's epoch joins; any other one is told the epoch.
func hearStrangeChild(n api.Node, at int, p api.Packet) (api.Turn, api.Errno) {
	s := n.Sides[at]
	if p.Epoch <= s.Link.Epoch {
		return api.Turn{}, api.ErrAway
	}
	if !joins(n, p) {
		w := begin(n)
		w.post(s.Peer, []api.Packet{{Bare: true, Ack: n.Epoch}})
		return api.Turn(w), api.OK
	}
	if !n.Ready {
		return api.Turn{}, api.ErrAway
	}
	w := begin(n)
	w.admit(at, p)
	return api.Turn(w), api.OK
}

// joins: is this the first packet of a child that wants the text, and knows which epoch this node has?
func joins(n api.Node, p api.Packet) bool {
	f := p.Frame
	return !p.Bare && p.Number == 1 && f.Kind == api.Join && f.Epoch == p.Epoch && f.Heard == n.Epoch
}

// admit a child: a session begins with its packet, and it gets the text.
func (w *work) admit(at int, p api.Packet) {
	w.Node.Sides[at] = api.Side{Peer: w.Node.Sides[at].Peer, Joined: true}
	w.open(at, p.Epoch)
	w.hear(at, p)
	w.send(at, api.Frame{Kind: api.Whole, Epoch: p.Epoch, Text: w.Node.Text})
}
