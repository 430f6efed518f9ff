package grove

import (
	"wherry/api"
	"wherry/node"
	"wherry/tape"
)

// root: the place of the node that has the tape.
const root = 0

// grove: the outcome as it is so far, and what the acts hang on beside it.
type grove struct {
	tree   api.Tree
	births []int // of each node
	out    api.Outcome
}

// plant a tree that may be: its nodes are born.
func plant(t api.Tree) *grove {
	n := len(t)
	g := &grove{tree: t, births: make([]int, n)}
	g.out.Nodes = make([]api.Node, n)
	g.out.Up = make([]bool, n)
	g.out.Flying = make([][]api.Packet, n*n)
	for me := range t {
		g.bear(me)
	}
	return g
}

// bear a node that is down, and was not born MaxBirths times. So Begin refuses nothing.
func (g *grove) bear(me int) {
	g.births[me]++
	g.out.Up[me] = true
	s := ""
	if me == root {
		s = g.remember()
	}
	turn, _ := node.Begin(g.tree, me, g.births[me], s)
	g.settle(me, turn)
}

// remember, at the root, the text that the tape tells. The tape is always one that may be; and as long as no record was left out, each operation on it is of the text that those ahead of it make.
func (g *grove) remember() string {
	found, left, _ := tape.Recover(g.out.Tape)
	g.out.Tape = left
	g.write([]api.Record{{Epoch: g.births[root]}})
	s, _, _ := tape.Replay(found)
	return s
}

// write records to the tape. One for which there is no room is left out.
func (g *grove) write(records []api.Record) {
	if len(records) == 0 {
		return
	}
	for _, r := range records {
		if longer, e := tape.Append(g.out.Tape, r); e == api.OK {
			g.out.Tape = longer
		}
	}
	g.out.Tape, _ = tape.Sync(g.out.Tape)
}

// settle what comes of a turn.
func (g *grove) settle(me int, turn api.Turn) {
	g.out.Nodes[me] = turn.Node
	g.write(turn.Records)
	for _, p := range turn.Posts {
		if way := g.way(me, p.To); len(*way) < api.MaxFlying {
			*way = append(*way, p.Packet)
		}
	}
}

// way: where the packets are that are on it from a node to another one.
func (g *grove) way(from, to int) *[]api.Packet {
	return &g.out.Flying[from*len(g.tree)+to]
}
