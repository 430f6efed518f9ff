package node

import (
	"math"
	"strings"
	"testing"

	"wherry/api"
)

const most = api.MaxNumber

func keep(n int) api.Part      { return api.Part{Kind: api.Keep, N: n} }
func remove(n int) api.Part    { return api.Part{Kind: api.Delete, N: n} }
func insert(s string) api.Part { return api.Part{Kind: api.Insert, Text: s} }

func long(n int) string { return strings.Repeat("é", n) }

// times: the same operation so often, each time new.
func times(n int, o api.Op) []api.Op {
	var l []api.Op
	for range n {
		l = append(l, append(api.Op(nil), o...))
	}
	return l
}

// tree: the root 0 over 1 and 2; 1 over 3 and 4.
var tree = api.Tree{-1, 0, 0, 1, 1}

// joined: a side on which nothing was sent since the session began.
func joined(peer, epoch int) api.Side {
	return api.Side{Peer: peer, Joined: true, Link: api.Link{Epoch: epoch, Next: 1}}
}

// apart: a side to somebody that was not heard of.
func apart(peer int) api.Side { return api.Side{Peer: peer, Link: api.Link{Next: 1}} }

// top: the root. All that is Joined begins with three runes.
func top() api.Node {
	return api.Node{Me: 0, Epoch: 3, Ready: true, Text: "aé世", Sides: []api.Side{joined(1, 5), joined(2, 6)}}
}

// middle: the node 1; of its children only the first one is Joined.
func middle() api.Node {
	return api.Node{Me: 1, Epoch: 5, Up: 3, Ready: true, Text: "aé世", Sides: []api.Side{joined(0, 5), joined(3, 9), apart(4)}}
}

// waiting: the node 1, that asked for the text.
func waiting() api.Node {
	n := api.Node{Me: 1, Epoch: 5, Up: 3, Sides: []api.Side{apart(0), apart(3), apart(4)}}
	n.Sides[0].Link = asked(5, 3)
	return n
}

// asked: the link on which a Join waits for its answer.
func asked(epoch, up int) api.Link {
	return api.Link{Epoch: epoch, Next: 2, Sent: []api.Frame{{Kind: api.Join, Epoch: epoch, Heard: up}}}
}

// but: a node that is changed.
func but(n api.Node, change func(n *api.Node)) api.Node {
	change(&n)
	return n
}

// P6.1
func TestCheckTree(t *testing.T) {
	for i, c := range []struct {
		t    api.Tree
		want api.Errno
	}{
		{nil, api.ErrSize},
		{api.Tree{}, api.ErrSize},
		{api.Tree{-1}, api.OK},
		{tree, api.OK},
		{api.Tree{-1, 0, 0, 0, 0, 0, 0}, api.OK},
		{api.Tree{-1, 0, 1, 2, 3, 4, 5}, api.OK},
		{api.Tree{-1, 0, 0, 0, 0, 0, 0, 0}, api.ErrSize},
		{api.Tree{0, 9, 9, 9, 9, 9, 9, 9}, api.ErrSize},
		{make(api.Tree, 1000), api.ErrSize},
		{api.Tree{0}, api.ErrForm},
		{api.Tree{1}, api.ErrForm},
		{api.Tree{-2}, api.ErrForm},
		{api.Tree{math.MinInt}, api.ErrForm},
		{api.Tree{math.MaxInt}, api.ErrForm},
		{api.Tree{0, 0}, api.ErrForm},
		{api.Tree{1, 0}, api.ErrForm},
		{api.Tree{-1, -1}, api.ErrForm},
		{api.Tree{-1, 1}, api.ErrForm},
		{api.Tree{-1, 2}, api.ErrForm},
		{api.Tree{-1, 0, -1}, api.ErrForm},
		{api.Tree{-1, 0, 2}, api.ErrForm},
		{api.Tree{-1, 0, 3}, api.ErrForm},
		{api.Tree{-1, 2, 0}, api.ErrForm},
		{api.Tree{-1, 0, 1, 2, 3, 4, 6}, api.ErrForm},
		{api.Tree{-1, 0, math.MinInt}, api.ErrForm},
		{api.Tree{-1, 0, math.MaxInt}, api.ErrForm},
	} {
		if e := CheckTree(c.t); e != c.want {
			t.Errorf("case %d: %v: %v, want %v", i, c.t, e, c.want)
		}
	}
}

// goodNodes may be, in the tree.
func goodNodes() []api.Node {
	full := joined(0, most)
	full.Edge = api.Edge{Sent: most, Heard: most, Pending: times(api.MaxPending+2, api.Op{keep(3)})}
	full.Link = api.Link{Epoch: most, Next: most, Heard: most}
	known := apart(4)
	known.Link = api.Link{Epoch: 7, Next: 5, Heard: 3}
	long := long(api.MaxText)
	return []api.Node{
		top(), middle(), waiting(),
		but(top(), func(n *api.Node) { n.Sides = []api.Side{apart(1), apart(2)} }),
		but(top(), func(n *api.Node) { n.Text = "" }),
		but(top(), func(n *api.Node) { n.Text = long }),
		but(middle(), func(n *api.Node) { n.Epoch = 1 }),
		but(middle(), func(n *api.Node) { n.Epoch = most - 1 }),
		but(middle(), func(n *api.Node) { n.Up = 0 }),
		but(middle(), func(n *api.Node) { n.Up = most }),
		but(waiting(), func(n *api.Node) { n.Sides[0].Link = api.Link{Next: 1} }),
		but(waiting(), func(n *api.Node) { n.Sides[2] = known }),
		but(middle(), func(n *api.Node) { n.Sides[2] = known }),
		but(middle(), func(n *api.Node) { n.Sides[0] = full }),
		but(middle(), func(n *api.Node) { n.Undo = times(api.MaxUndo, api.Op{keep(3)}) }),
		but(middle(), func(n *api.Node) {
			n.Undo = []api.Op{{insert("世")}, {remove(5)}, {insert("ab"), keep(3)}}
		}),
		but(middle(), func(n *api.Node) { n.Text, n.Undo = "", []api.Op{nil, {}} }),
		but(middle(), func(n *api.Node) { n.Undo, n.Marks = []api.Op{}, []api.Mark{} }),
		but(middle(), func(n *api.Node) { n.Marks = []api.Mark{{}} }),
		but(middle(), func(n *api.Node) { n.Marks = []api.Mark{{Anchor: 3, Head: 0}} }),
		but(middle(), func(n *api.Node) { n.Marks = []api.Mark{{Anchor: 0, Head: 3}} }),
		but(middle(), func(n *api.Node) { n.Sides[1].Edge = api.Edge{Sent: 1, Pending: []api.Op{{insert("aé世")}}} }),
		but(middle(), func(n *api.Node) {
			n.Sides[1].Edge = api.Edge{Sent: 2, Pending: []api.Op{{remove(9)}, {insert("aé世")}}}
		}),
	}
}

// wrongMarks, of a text of three runes.
var wrongMarks = []api.Mark{
	{Anchor: -1}, {Head: -1}, {Anchor: 4}, {Head: 4}, {Anchor: 3, Head: 4}, {Anchor: 4, Head: 3}, {Anchor: 7, Head: 7},
	{Anchor: math.MinInt}, {Anchor: math.MaxInt}, {Head: math.MinInt}, {Head: math.MaxInt},
}

// wrongNodes may not be, in the tree: one thing is wrong with each.
func wrongNodes() []api.Node {
	l := []api.Node{{}}
	add := func(n api.Node, change func(n *api.Node)) { l = append(l, but(n, change)) }
	for _, me := range []int{-1, 0, 2, 3, 5, math.MinInt, math.MaxInt} {
		add(middle(), func(n *api.Node) { n.Me = me })
	}
	for _, epoch := range []int{0, -1, most, most + 1, math.MinInt, math.MaxInt} {
		add(middle(), func(n *api.Node) { n.Epoch = epoch })
		add(top(), func(n *api.Node) { n.Epoch = epoch })
	}
	for _, up := range []int{-1, most + 1, math.MinInt, math.MaxInt} {
		add(middle(), func(n *api.Node) { n.Up = up })
	}
	for _, up := range []int{-1, 1, most} {
		add(top(), func(n *api.Node) { n.Up = up })
	}
	for _, s := range []string{"\xff", "aé\xe4", long(api.MaxText + 1)} {
		add(middle(), func(n *api.Node) { n.Text = s })
	}
	for _, m := range wrongMarks {
		add(middle(), func(n *api.Node) { n.Marks = []api.Mark{m} })
	}
	add(middle(), func(n *api.Node) { n.Marks = make([]api.Mark, 2) })
	return append(append(append(l, wrongUndo()...), wrongSides()...), wrongReady()...)
}

func wrongUndo() []api.Node {
	var l []api.Node
	for _, undo := range [][]api.Op{
		times(api.MaxUndo+1, api.Op{keep(3)}),
		{nil}, {{keep(2)}}, {{keep(4)}}, {{insert("aé世")}},
		{{keep(3)}, {keep(3), insert("x")}},
		{{keep(4)}, {keep(3)}},
		{{keep(3)}, {keep(4)}, {keep(3), insert("x")}, {keep(3)}},
		{{keep(1), keep(2)}},
		{{keep(3), insert("\xff")}},
		{{keep(1), keep(2)}, {keep(3)}},
		{{{}}, {keep(3)}},
		{{keep(3), remove(0)}},
		{{keep(3), insert(long(api.MaxText))}},
		{{keep(math.MaxInt), remove(math.MaxInt), keep(5)}},
	} {
		l = append(l, but(middle(), func(n *api.Node) { n.Undo = undo }))
	}
	return l
}

func wrongSides() []api.Node {
	var l []api.Node
	for _, sides := range [][]api.Side{
		nil, {joined(0, 5)}, {joined(0, 5), joined(3, 9)},
		{joined(0, 5), joined(3, 9), apart(4), apart(2)},
		{joined(0, 5), joined(3, 9), apart(4), apart(4)},
		{joined(0, 5), apart(4), joined(3, 9)},
		{joined(3, 9), joined(0, 5), apart(4)},
		{joined(0, 5), joined(3, 9), apart(2)},
		{joined(0, 5), joined(3, 9), apart(-1)},
		{joined(0, 5), joined(3, 9), apart(1)},
		{joined(2, 5), joined(3, 9), apart(4)},
		{joined(0, 5), joined(3, 9), {Peer: 4}},
		{joined(0, 5), joined(3, 0), apart(4)},
		{joined(0, 0), joined(3, 9), apart(4)},
	} {
		l = append(l, but(middle(), func(n *api.Node) { n.Sides = sides }))
	}
	for i := range 3 {
		for _, change := range []func(s *api.Side){
			func(s *api.Side) { s.Edge.Heard = -1 },
			func(s *api.Side) { s.Edge.Sent = most + 1 },
			func(s *api.Side) { s.Edge.Pending = []api.Op{{keep(3)}} },
			func(s *api.Side) { s.Edge = api.Edge{Sent: 1, Pending: []api.Op{{keep(1), keep(2)}}} },
			func(s *api.Side) { s.Link.Next = 0 },
			func(s *api.Side) { s.Link.Heard = -1 },
			func(s *api.Side) { s.Link.Queue = []api.Frame{{Kind: api.Join, Epoch: 1}} },
			func(s *api.Side) { s.Link = api.Link{Epoch: 5, Next: 2, Sent: []api.Frame{{}}} },
			func(s *api.Side) { *s = api.Side{Peer: s.Peer, Link: s.Link, Edge: api.Edge{Sent: 1}} },
			func(s *api.Side) { *s = api.Side{Peer: s.Peer, Link: s.Link, Edge: api.Edge{Heard: 1}} },
			func(s *api.Side) {
				s.Joined, s.Link.Epoch, s.Edge = true, 9, api.Edge{Sent: 1, Pending: []api.Op{{keep(3), insert("x")}}}
			},
			func(s *api.Side) {
				s.Joined, s.Link.Epoch, s.Edge = true, 9, api.Edge{Sent: 9, Pending: []api.Op{{keep(3)}, {keep(2), remove(1)}}}
			},
		} {
			l = append(l, but(middle(), func(n *api.Node) { change(&n.Sides[i]) }))
		}
	}
	return l
}

func wrongReady() []api.Node {
	return []api.Node{
		but(top(), func(n *api.Node) { n.Ready = false }),
		{Me: 0, Epoch: 3, Sides: []api.Side{apart(1), apart(2)}},
		but(middle(), func(n *api.Node) { n.Ready = false }),
		but(middle(), func(n *api.Node) { n.Ready, n.Text, n.Sides[1] = false, "", apart(3) }),
		but(middle(), func(n *api.Node) { n.Sides[0] = apart(0) }),
		but(waiting(), func(n *api.Node) { n.Ready = true }),
		but(waiting(), func(n *api.Node) { n.Text = "a" }),
		but(waiting(), func(n *api.Node) { n.Undo = []api.Op{{insert("x")}} }),
		but(waiting(), func(n *api.Node) { n.Undo = []api.Op{nil} }),
		but(waiting(), func(n *api.Node) { n.Marks = []api.Mark{{}} }),
		but(waiting(), func(n *api.Node) { n.Sides[1] = joined(3, 9) }),
		but(waiting(), func(n *api.Node) { n.Sides[0] = joined(0, 5) }),
	}
}

// P6.2
func TestCheck(t *testing.T) {
	for i, n := range goodNodes() {
		if e := Check(tree, n); e != api.OK {
			t.Errorf("node %d: %v: %v", i, n, e)
		}
	}
	for i, n := range wrongNodes() {
		if e := Check(tree, n); e != api.ErrState {
			t.Errorf("wrong node %d: %v: %v", i, n, e)
		}
	}
}

// P6.2: the same node in other trees.
func TestCheckInTree(t *testing.T) {
	for i, c := range []struct {
		t    api.Tree
		want api.Errno
	}{
		{tree, api.OK},
		{api.Tree{-1, 0, 0, 1, 1, 2, 5}, api.OK},
		{api.Tree{-1, 0, 0, 1}, api.ErrState},
		{api.Tree{-1, 0, 0, 1, 1, 1}, api.ErrState},
		{api.Tree{-1, 0, 1, 0, 1}, api.ErrState},
		{api.Tree{-1, 0, 1, 1}, api.ErrState},
		{api.Tree{-1}, api.ErrState},
		{nil, api.ErrSize},
		{api.Tree{-1, 0, 0, 1, 1, 0, 0, 0}, api.ErrSize},
		{api.Tree{-1, 0, 0, 1, 5}, api.ErrForm},
		{api.Tree{0, 0, 0, 1, 1}, api.ErrForm},
	} {
		if e := Check(c.t, middle()); e != c.want {
			t.Errorf("case %d: %v: %v, want %v", i, c.t, e, c.want)
		}
	}
	if e := Check(api.Tree{-1}, api.Node{Epoch: 1, Ready: true}); e != api.OK {
		t.Errorf("the root alone: %v", e)
	}
}

// P6.3: what Check refuses comes ahead of all else.
func TestWrongNodesAreRefused(t *testing.T) {
	type call struct {
		tree api.Tree
		n    api.Node
		want api.Errno
	}
	calls := []call{
		{nil, middle(), api.ErrSize}, {nil, api.Node{}, api.ErrSize}, {make(api.Tree, 8), middle(), api.ErrSize},
		{api.Tree{0}, middle(), api.ErrForm}, {api.Tree{0}, api.Node{}, api.ErrForm},
	}
	for _, n := range wrongNodes() {
		calls = append(calls, call{tree, n, api.ErrState})
	}
	refused := func(i int, what string, got api.Turn, e, want api.Errno) {
		t.Helper()
		if e != want || told(got) != told(api.Turn{}) {
			t.Errorf("call %d: %s: %v %v, want %v", i, what, got, e, want)
		}
	}
	for i, c := range calls {
		for _, o := range []api.Op{{keep(3)}, {{}}} {
			got, e := Edit(c.tree, c.n, o)
			refused(i, "Edit", got, e, c.want)
		}
		for _, m := range []api.Mark{{}, {Anchor: -1}} {
			got, e := Select(c.tree, c.n, m)
			refused(i, "Select", got, e, c.want)
		}
		for _, p := range []api.Packet{{Bare: true}, {Bare: true, Epoch: 5}, {Epoch: 5, Number: 1, Frame: api.Frame{Kind: api.Edit}}, {}} {
			for _, from := range []int{0, 1, 3, -1} {
				got, e := Hear(c.tree, c.n, from, p)
				refused(i, "Hear", got, e, c.want)
			}
		}
		got, e := Undo(c.tree, c.n)
		refused(i, "Undo", got, e, c.want)
		got, e = Tick(c.tree, c.n)
		refused(i, "Tick", got, e, c.want)
	}
}
