package grove

import (
	"math/rand"
	"testing"

	"wherry/api"
	"wherry/node"
	"wherry/tape"
)

// plain grove: a second reading of P8, act by act, by which the program's answers are judged.
type plain struct {
	tree   api.Tree
	births map[int]int
	up     map[int]api.Node // those that are down are not there
	bytes  []byte           // of the tape: all are synced between two acts
	way    map[[2]int][]api.Packet
	acts   []api.Act
	codes  []api.Errno
}

func newPlain(t api.Tree) *plain {
	g := &plain{tree: t, births: map[int]int{}, up: map[int]api.Node{}, way: map[[2]int][]api.Packet{}}
	for i := range t {
		g.born(i)
	}
	return g
}

func (g *plain) write(r api.Record) {
	x, e := tape.Append(api.Tape{Data: g.bytes}, r)
	if e == api.OK {
		g.bytes = x.Data
	}
}

func (g *plain) born(i int) {
	g.births[i]++
	s := ""
	if i == 0 {
		found, left, _ := tape.Recover(api.Tape{Data: g.bytes})
		g.bytes = left.Data
		g.write(api.Record{Epoch: g.births[0]})
		s, _, _ = tape.Replay(found)
	}
	turn, e := node.Begin(g.tree, i, g.births[i], s)
	g.turn(i, turn, e)
}

func (g *plain) turn(i int, turn api.Turn, e api.Errno) api.Errno {
	if e != api.OK {
		return e
	}
	g.up[i] = turn.Node
	for _, r := range turn.Records {
		g.write(r)
	}
	for _, p := range turn.Posts {
		if way := [2]int{i, p.To}; len(g.way[way]) != api.MaxFlying {
			g.way[way] = append(g.way[way], p.Packet)
		}
	}
	return api.OK
}

func (g *plain) do(a api.Act) {
	g.acts = append(g.acts, a)
	g.codes = append(g.codes, g.code(a))
}

func (g *plain) code(a api.Act) api.Errno {
	n, up := g.up[a.Node]
	switch a.Kind {
	case api.Deliver, api.Drop, api.Copy:
		return g.packet(a)
	case api.Tick:
		for i := range g.tree {
			if n, up := g.up[i]; up {
				turn, e := node.Tick(g.tree, n)
				g.turn(i, turn, e)
			}
		}
		return api.OK
	case api.Start:
		if up {
			return api.ErrTwice
		}
		if g.births[a.Node] >= api.MaxBirths {
			return api.ErrFull
		}
		g.born(a.Node)
		return api.OK
	}
	if !up {
		return api.ErrDown
	}
	var turn api.Turn
	var e api.Errno
	switch a.Kind {
	case api.Type:
		turn, e = node.Edit(g.tree, n, a.Op)
	case api.Undo:
		turn, e = node.Undo(g.tree, n)
	case api.Select:
		turn, e = node.Select(g.tree, n, a.Mark)
	case api.Crash:
		delete(g.up, a.Node)
		return api.OK
	}
	return g.turn(a.Node, turn, e)
}

// packet of an act.
func (g *plain) packet(a api.Act) api.Errno {
	way := [2]int{a.Node, a.To}
	l := g.way[way]
	if len(l) == 0 {
		return api.ErrNone
	}
	place := a.Pick % len(l)
	p := l[place]
	if a.Kind == api.Copy {
		if len(l) == api.MaxFlying {
			return api.ErrFull
		}
		g.way[way] = append(l, p)
		return api.OK
	}
	g.way[way] = append(append([]api.Packet{}, l[:place]...), l[place+1:]...)
	if a.Kind == api.Drop {
		return api.OK
	}
	n, up := g.up[a.To]
	if !up {
		return api.ErrDown
	}
	turn, e := node.Hear(g.tree, n, a.Node, p)
	return g.turn(a.To, turn, e)
}

// outcome of all acts.
func (g *plain) outcome() api.Outcome {
	o := api.Outcome{Tape: api.Tape{Data: g.bytes, Synced: len(g.bytes)}, Codes: g.codes}
	for i := range g.tree {
		n, up := g.up[i]
		o.Nodes, o.Up = append(o.Nodes, n), append(o.Up, up)
		for k := range g.tree {
			o.Flying = append(o.Flying, g.way[[2]int{i, k}])
		}
	}
	return o
}

// drawnOp on a text of n runes, or nearly so.
func drawnOp(r *rand.Rand, n int) api.Op {
	if r.Intn(20) == 0 {
		n++
	}
	at := r.Intn(n + 1)
	gone := min(r.Intn(4), n-at)
	var o api.Op
	if at > 0 {
		o = append(o, keep(at))
	}
	if s := []string{"", "a", "é世", "xyz", "𝄞"}[r.Intn(5)]; s != "" {
		o = append(o, insert(s))
	}
	if gone > 0 {
		o = append(o, remove(gone))
	}
	switch n -= at + gone; {
	case n > 0 && len(o) == 1 && o[0].Kind == api.Keep:
		o[0].N += n
	case n > 0:
		o = append(o, keep(n))
	}
	return o
}

// drawnAct: of so many in a hundred somebody crashes, or a packet is lost, or comes twice, or late.
func (g *plain) drawnAct(r *rand.Rand, trouble int) api.Act {
	i, k := r.Intn(len(g.tree)), r.Intn(len(g.tree))
	length := len([]rune(g.up[i].Text))
	if r.Intn(100) < trouble {
		return []api.Act{crashing(i, r.Intn(9)), starting(i), dropping(i, k, r.Intn(9)), copying(i, k, r.Intn(9)), delivering(i, k, r.Intn(9))}[r.Intn(5)]
	}
	switch r.Intn(16) {
	case 0, 1, 2:
		return typing(i, drawnOp(r, length)...)
	case 3:
		return undoing(i)
	case 4:
		return selecting(i, r.Intn(length+1), r.Intn(length+2))
	case 5:
		return ticking()
	}
	if l := g.busy(); len(l) > 0 {
		way := l[r.Intn(len(l))]
		i, k = way[0], way[1]
	}
	return delivering(i, k, 0)
}

// busy: from where to where there are packets on the way.
func (g *plain) busy() [][2]int {
	var l [][2]int
	for i := range g.tree {
		for k := range g.tree {
			if way := [2]int{i, k}; len(g.way[way]) > 0 {
				l = append(l, way)
			}
		}
	}
	return l
}

var trees = []api.Tree{
	{-1}, {-1, 0}, {-1, 0, 0}, {-1, 0, 1}, {-1, 0, 0, 1, 1}, {-1, 0, 1, 2, 3, 4, 5}, {-1, 0, 0, 0, 0, 0, 0}, {-1, 0, 1, 0, 1, 2, 3},
}

// settle: all are up, and all is delivered, over and over.
func (g *plain) settle() {
	for i := range g.tree {
		g.do(starting(i))
	}
	for range 24 {
		for i := range g.tree {
			for k := range g.tree {
				for range len(g.way[[2]int{i, k}]) {
					g.do(delivering(i, k, 0))
				}
			}
		}
		g.do(ticking())
	}
}

// P8: drawn scripts, held against the plain reading; and when all are up again, and all is delivered, all have the root's text.
func TestDrawnScripts(t *testing.T) {
	r := rand.New(rand.NewSource(8))
	answers := map[api.Errno]int{}
	for round := range 120 {
		g := newPlain(trees[round%len(trees)])
		trouble := []int{0, 10, 40}[round/len(trees)%3]
		for range r.Intn(400) {
			g.do(g.drawnAct(r, trouble))
		}
		expect(t, told(g.tree, g.acts), run(t, g.tree, g.acts), g.outcome())
		g.settle()
		o := run(t, g.tree, g.acts)
		expect(t, told(g.tree, g.acts), o, g.outcome())
		for i, n := range o.Nodes {
			if !n.Ready || !o.Up[i] || n.Text != o.Nodes[0].Text {
				t.Fatalf("%v %v: node %d: %v, and the root has %q", g.tree, g.acts, i, n, o.Nodes[0].Text)
			}
		}
		for _, e := range o.Codes {
			answers[e]++
		}
	}
	for _, e := range []api.Errno{api.OK, api.ErrNone, api.ErrTwice, api.ErrMatch, api.ErrDown, api.ErrAway, api.ErrRange} {
		if answers[e] < 20 {
			t.Errorf("%v came only %d times: %v", e, answers[e], answers)
		}
	}
}

// P8: what comes of a script is what comes of its beginning, and then of the rest: each act more changes nothing ahead of it.
func TestActByAct(t *testing.T) {
	r := rand.New(rand.NewSource(88))
	for _, tree := range trees {
		g := newPlain(tree)
		for range 60 {
			g.do(g.drawnAct(r, 20))
			expect(t, told(tree, g.acts), run(t, tree, g.acts), g.outcome())
		}
	}
}
