package node

import "wherry/api"

// root: the place of the node that has no parent.
const root = 0

// CheckTree: may it be?
func CheckTree(t api.Tree) api.Errno {
	if len(t) < 1 || len(t) > api.MaxNodes {
		return api.ErrSize
	}
	for i, parent := range t {
		if i == root && parent != -1 {
			return api.ErrForm
		}
		if i != root && (parent < 0 || parent >= i) {
			return api.ErrForm
		}
	}
	return api.OK
}

func isNode(t api.Tree, me int) bool { return 0 <= me && me < len(t) }

// eachNeighbour of a node is seen: its parent, if it has one, then its children.
func eachNeighbour(t api.Tree, me int, see func(peer int)) {
	if me != root {
		see(t[me])
	}
	for i, parent := range t {
		if parent == me {
			see(i)
		}
	}
}

// newSides: those of a node that has heard of nobody yet.
func newSides(t api.Tree, me int) []api.Side {
	var sides []api.Side
	eachNeighbour(t, me, func(peer int) {
		sides = append(sides, newSide(peer))
	})
	return sides
}

func newSide(peer int) api.Side {
	return api.Side{Peer: peer, Link: api.Link{Next: 1}}
}
