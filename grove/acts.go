package grove

import (
	"slices"

	"wherry/api"
	"wherry/node"
	"wherry/tape"
)

// do an act that may be, and tell its code.
func (g *grove) do(a api.Act) api.Errno {
	switch a.Kind {
	case api.Type, api.Undo, api.Select:
		return g.take(a.Node, func(n api.Node) (api.Turn, api.Errno) { return g.handle(n, a) })
	case api.Deliver, api.Drop, api.Copy:
		return g.carry(a)
	case api.Tick:
		g.tick()
		return api.OK
	case api.Crash:
		return g.crash(a.Node, a.Keep)
	default:
		return g.start(a.Node)
	}
}

// take a turn of a node, if it is up.
func (g *grove) take(me int, turn func(n api.Node) (api.Turn, api.Errno)) api.Errno {
	if !g.out.Up[me] {
		return api.ErrDown
	}
	next, e := turn(g.out.Nodes[me])
	if e != api.OK {
		return e
	}
	g.settle(me, next)
	return api.OK
}

// handle what somebody does at a node.
func (g *grove) handle(n api.Node, a api.Act) (api.Turn, api.Errno) {
	switch a.Kind {
	case api.Type:
		return node.Edit(g.tree, n, a.Op)
	case api.Undo:
		return node.Undo(g.tree, n)
	default:
		return node.Select(g.tree, n, a.Mark)
	}
}

// carry a packet that is on the way. One that is delivered to a node that is down is gone, too.
func (g *grove) carry(a api.Act) api.Errno {
	way := g.way(a.Node, a.To)
	if len(*way) == 0 {
		return api.ErrNone
	}
	at := a.Pick % len(*way)
	p := (*way)[at]
	if a.Kind == api.Copy {
		return again(way, p)
	}
	*way = slices.Delete(*way, at, at+1)
	if a.Kind == api.Drop {
		return api.OK
	}
	return g.take(a.To, func(n api.Node) (api.Turn, api.Errno) { return node.Hear(g.tree, n, a.Node, p) })
}

// again: the packet is on the way once more, with parts of its own.
func again(way *[]api.Packet, p api.Packet) api.Errno {
	if len(*way) >= api.MaxFlying {
		return api.ErrFull
	}
	p.Frame.Op = append(api.Op(nil), p.Frame.Op...)
	*way = append(*way, p)
	return api.OK
}

// tick all that are up.
func (g *grove) tick() {
	for me := range g.tree {
		g.take(me, func(n api.Node) (api.Turn, api.Errno) { return node.Tick(g.tree, n) })
	}
}

// crash a node. What is on the way stays there.
func (g *grove) crash(me, keep int) api.Errno {
	if !g.out.Up[me] {
		return api.ErrDown
	}
	g.out.Up[me] = false
	g.out.Nodes[me] = api.Node{}
	if me == root {
		g.out.Tape, _ = tape.Crash(g.out.Tape, keep)
	}
	return api.OK
}

func (g *grove) start(me int) api.Errno {
	if g.out.Up[me] {
		return api.ErrTwice
	}
	if g.births[me] == api.MaxBirths {
		return api.ErrFull
	}
	g.bear(me)
	return api.OK
}
