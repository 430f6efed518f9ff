package node

import (
	"unicode/utf8"

	"wherry/api"
	"wherry/edge"
	"wherry/link"
	"wherry/text"
)

// Check a node of a tree.
func Check(t api.Tree, n api.Node) api.Errno {
	if e := CheckTree(t); e != api.OK {
		return e
	}
	if !isNode(t, n.Me) || !numbersMayBe(n) || text.CheckText(n.Text) != api.OK {
		return api.ErrState
	}
	if !undoMayBe(n) || !marksMayBe(n) || !sidesMayBe(t, n) || !readyMayBe(n) {
		return api.ErrState
	}
	return api.OK
}

func numbersMayBe(n api.Node) bool {
	if n.Epoch < 1 || n.Epoch > lastEpoch || n.Up < 0 || n.Up > api.MaxNumber {
		return false
	}
	return n.Me != root || n.Up == 0
}

// undoMayBe: each one is of the text that there is when all behind it are undone, as far as lengths tell.
func undoMayBe(n api.Node) bool {
	if len(n.Undo) > api.MaxUndo {
		return false
	}
	length := utf8.RuneCountInString(n.Text)
	for i := len(n.Undo) - 1; i >= 0; i-- {
		if text.Check(n.Undo[i]) != api.OK {
			return false
		}
		from, to := text.Lengths(n.Undo[i])
		if from != length {
			return false
		}
		length = to
	}
	return true
}

func marksMayBe(n api.Node) bool {
	if len(n.Marks) > 1 {
		return false
	}
	for _, m := range n.Marks {
		if !marks(n.Text, m) {
			return false
		}
	}
	return true
}

// marks: is it a mark of this text?
func marks(s string, m api.Mark) bool {
	length := utf8.RuneCountInString(s)
	return 0 <= m.Anchor && m.Anchor <= length && 0 <= m.Head && m.Head <= length
}

func sidesMayBe(t api.Tree, n api.Node) bool {
	count, good := 0, true
	eachNeighbour(t, n.Me, func(peer int) {
		good = good && count < len(n.Sides) && n.Sides[count].Peer == peer
		count++
	})
	if !good || count != len(n.Sides) {
		return false
	}
	eachSide(n, func(at int, s api.Side) {
		good = good && sideMayBe(n, s)
	})
	return good
}

func sideMayBe(n api.Node, s api.Side) bool {
	if edge.Check(s.Edge) != api.OK || link.Check(s.Link) != api.OK {
		return false
	}
	if !s.Joined {
		return s.Edge.Sent == 0 && s.Edge.Heard == 0
	}
	return n.Ready && s.Link.Epoch != 0 && endsWith(s.Edge.Pending, n.Text)
}

// endsWith: do these operations lead to a text as long as this one? Without any there is nothing to tell.
func endsWith(pending []api.Op, s string) bool {
	if len(pending) == 0 {
		return true
	}
	_, to := text.Lengths(pending[len(pending)-1])
	return to == utf8.RuneCountInString(s)
}

// readyMayBe: asked when the sides are known to be those to the neighbours.
func readyMayBe(n api.Node) bool {
	if n.Me == root {
		return n.Ready
	}
	if n.Ready != n.Sides[0].Joined {
		return false
	}
	return n.Ready || n.Text == "" && len(n.Undo) == 0 && len(n.Marks) == 0
}
