package node

import (
	"math/rand"
	"slices"
	"sort"
	"testing"

	"wherry/api"
	"wherry/text"
)

// grove of nodes, and the packets on the way between them.
type grove struct {
	t      *testing.T
	r      *rand.Rand
	tree   api.Tree
	nodes  []api.Node
	up     []bool
	births []int
	way    [][]api.Packet
	root   string // what the root's records make
}

func newGrove(t *testing.T, r *rand.Rand, tree api.Tree) *grove {
	n := len(tree)
	g := &grove{t: t, r: r, tree: tree, nodes: make([]api.Node, n), up: make([]bool, n), births: make([]int, n), way: make([][]api.Packet, n*n)}
	for i := range n {
		g.start(i)
	}
	return g
}

// turn of a node: it may be, and the root's records make its text.
func (g *grove) turn(i int, got api.Turn) {
	g.t.Helper()
	if e := Check(g.tree, got.Node); e != api.OK {
		g.t.Fatalf("%v may not be: %v", got.Node, e)
	}
	g.nodes[i] = got.Node
	for _, p := range got.Posts {
		at := i*len(g.tree) + p.To
		g.way[at] = append(g.way[at], p.Packet)
	}
	for _, x := range got.Records {
		s, e := text.Apply(g.root, x.Op)
		if i != 0 || e != api.OK {
			g.t.Fatalf("node %d writes %v on %q: %v", i, x, g.root, e)
		}
		g.root = s
	}
	if i == 0 && g.root != got.Node.Text {
		g.t.Fatalf("the root has %q, and wrote %q", got.Node.Text, g.root)
	}
}

// may be refused with one of these, or not at all.
func (g *grove) may(i int, got api.Turn, e api.Errno, errors ...api.Errno) {
	g.t.Helper()
	if e == api.OK {
		g.turn(i, got)
	} else if !slices.Contains(errors, e) {
		g.t.Fatalf("node %d: %v: %v", i, g.nodes[i], e)
	}
}

func (g *grove) start(i int) {
	g.births[i]++
	g.up[i] = true
	s := ""
	if i == 0 {
		s = g.root
	}
	got, e := Begin(g.tree, i, g.births[i], s)
	g.may(i, got, e)
}

func (g *grove) tick(i int) {
	got, e := Tick(g.tree, g.nodes[i])
	g.may(i, got, e)
}

// deliver the packet at a place of those on the way from a node to another one.
func (g *grove) deliver(way, place int) {
	g.t.Helper()
	from, to := way/len(g.tree), way%len(g.tree)
	p := g.way[way][place]
	g.way[way] = slices.Delete(g.way[way], place, place+1)
	if g.up[to] {
		got, e := Hear(g.tree, g.nodes[to], from, p)
		g.may(to, got, e, api.ErrAway)
	}
}

// drawnOp on a text of n runes.
func drawnOp(r *rand.Rand, n int) api.Op {
	at := r.Intn(n + 1)
	gone := min(r.Intn(4), n-at)
	var o api.Op
	if at > 0 {
		o = append(o, keep(at))
	}
	if s := []string{"", "a", "é世", "xyz"}[r.Intn(4)]; s != "" {
		o = append(o, insert(s))
	}
	if gone > 0 {
		o = append(o, remove(gone))
	}
	switch n -= at + gone; {
	case n > 0 && len(o) == 1 && o[0].Kind == api.Keep:
		o[0].N += n
	case n > 0:
		o = append(o, keep(n))
	}
	return o
}

// act of somebody at a node that is up.
func (g *grove) act(i int) {
	n := g.nodes[i]
	length := len([]rune(n.Text))
	switch g.r.Intn(6) {
	case 0:
		got, e := Undo(g.tree, n)
		g.may(i, got, e, api.ErrAway, api.ErrNone, api.ErrFull)
	case 1:
		got, e := Select(g.tree, n, api.Mark{Anchor: g.r.Intn(length + 1), Head: g.r.Intn(length + 1)})
		g.may(i, got, e, api.ErrAway)
	case 2:
		g.tick(i)
	default:
		got, e := Edit(g.tree, n, drawnOp(g.r, length))
		g.may(i, got, e, api.ErrAway, api.ErrFull)
	}
}

// mishap: a packet is lost, comes twice, or late; a node crashes, and begins anew.
func (g *grove) mishap() {
	way := g.r.Intn(len(g.way))
	i := g.r.Intn(len(g.tree))
	switch l := g.way[way]; {
	case g.r.Intn(8) == 0:
		if g.up[i] = !g.up[i]; g.up[i] {
			g.start(i)
		}
	case len(l) == 0:
	case g.r.Intn(2) == 0:
		g.way[way] = l[1:]
	default:
		g.way[way] = append(l, l[g.r.Intn(len(l))])
	}
}

// settle: all are up, and all is delivered.
func (g *grove) settle() {
	g.t.Helper()
	for i := range g.tree {
		if !g.up[i] {
			g.start(i)
		}
	}
	for range 40 {
		for way := range g.way {
			for len(g.way[way]) > 0 {
				g.deliver(way, 0)
			}
		}
		for i := range g.tree {
			g.tick(i)
		}
	}
	for i, n := range g.nodes {
		if !n.Ready || n.Text != g.root {
			g.t.Fatalf("node %d: %v, and the root has %q", i, n, g.root)
		}
	}
}

var trees = []api.Tree{
	{-1}, {-1, 0}, {-1, 0, 0}, {-1, 0, 1}, {-1, 0, 0, 1, 1}, {-1, 0, 1, 2, 3, 4, 5}, {-1, 0, 0, 0, 0, 0, 0}, {-1, 0, 1, 0, 1, 2, 3},
}

// P6: when all are up again, and all is delivered, all have the root's text, whatever happened on the way.
func TestAllComeToOneText(t *testing.T) {
	r := rand.New(rand.NewSource(6))
	for round := range 60 {
		g := newGrove(t, r, trees[round%len(trees)])
		trouble := []int{0, 3, 12}[round/len(trees)%3]
		for range 3 {
			for range 150 {
				if i := r.Intn(len(g.tree)); g.up[i] && r.Intn(3) == 0 {
					g.act(i)
				}
				if way := r.Intn(len(g.way)); len(g.way[way]) > 0 {
					place := 0
					if trouble > 0 {
						place = r.Intn(len(g.way[way]))
					}
					g.deliver(way, place)
				}
				if r.Intn(100) < trouble {
					g.mishap()
				}
			}
			g.settle()
		}
	}
}

// P6.6, P6.9: what is only inserted, and by nodes that stay up, is there once at the end, though packets are lost, come twice, or late.
func TestWhatIsInsertedComesOnce(t *testing.T) {
	r := rand.New(rand.NewSource(66))
	for _, tree := range trees {
		g := newGrove(t, r, tree)
		g.settle()
		var want []rune
		for range 150 {
			i := r.Intn(len(tree))
			length := len([]rune(g.nodes[i].Text))
			at := r.Intn(length + 1)
			word := rune(0x4e00 + len(want))
			o := slices.DeleteFunc(api.Op{keep(at), insert(string(word)), keep(length - at)}, func(p api.Part) bool { return p == keep(0) })
			if got, e := Edit(tree, g.nodes[i], o); e == api.OK {
				g.turn(i, got)
				want = append(want, word)
			} else if e != api.ErrFull {
				t.Fatal(e)
			}
			way := r.Intn(len(g.way))
			for l := g.way[way]; len(g.way[way]) > len(l)/2; {
				g.deliver(way, r.Intn(len(g.way[way])))
			}
			if l := g.way[way]; len(l) > 0 && r.Intn(2) == 0 {
				g.way[way] = append(l[1:], l[r.Intn(len(l))])
			}
			if r.Intn(4) == 0 {
				g.tick(i)
			}
		}
		g.settle()
		got := []rune(g.root)
		sort.Slice(got, func(i, k int) bool { return got[i] < got[k] })
		if string(got) != string(want) {
			t.Fatalf("%v: %q, want %q", tree, string(got), string(want))
		}
	}
}

// The document's example of the whole, and what comes when somebody undoes.
func TestTwoNodes(t *testing.T) {
	g := newGrove(t, rand.New(rand.NewSource(1)), api.Tree{-1, 0})
	if len(g.way[2]) != 1 || g.nodes[1].Ready {
		t.Fatalf("%v %v", g.way, g.nodes)
	}
	g.deliver(2, 0) // what the other one posted asks with an epoch that the parent has not
	for len(g.way[1])+len(g.way[2]) > 0 {
		for _, way := range []int{1, 2} {
			if len(g.way[way]) > 0 {
				g.deliver(way, 0)
			}
		}
	}
	if !g.nodes[1].Ready || g.nodes[1].Up != 4096 || g.nodes[1].Epoch != 4097 {
		t.Fatalf("%v", g.nodes[1])
	}
	for i, s := range []string{"a", "b"} {
		got, e := Edit(g.tree, g.nodes[i], api.Op{insert(s)})
		g.may(i, got, e)
	}
	g.settle()
	if g.root != "ab" || g.nodes[1].Text != "ab" {
		t.Fatalf("%q %q", g.root, g.nodes[1].Text)
	}
	got, e := Undo(g.tree, g.nodes[0])
	g.may(0, got, e)
	g.settle()
	if g.root != "b" {
		t.Fatalf("%q", g.root)
	}
}
