package node

import "wherry/api"

// copyNode: a node of its own memory.
func copyNode(n api.Node) api.Node {
	var sides []api.Side
	eachSide(n, func(at int, s api.Side) {
		s.Edge.Pending = copyOps(s.Edge.Pending)
		s.Link.Sent = copyFrames(s.Link.Sent)
		s.Link.Queue = copyFrames(s.Link.Queue)
		sides = append(sides, s)
	})
	n.Sides = sides
	n.Undo = copyOps(n.Undo)
	n.Marks = append([]api.Mark(nil), n.Marks...)
	return n
}

func copyFrames(l []api.Frame) []api.Frame {
	var out []api.Frame
	for _, f := range l {
		f.Op = copyOp(f.Op)
		out = append(out, f)
	}
	return out
}

func copyOps(l []api.Op) []api.Op {
	var out []api.Op
	for _, o := range l {
		out = append(out, copyOp(o))
	}
	return out
}

func copyOp(o api.Op) api.Op { return append(api.Op(nil), o...) }
