package node

import (
	"fmt"
	"math"
	"testing"

	"wherry/api"
)

// packet of a session, with a frame.
func packet(epoch, number, ack int, f api.Frame) api.Packet {
	return api.Packet{Epoch: epoch, Number: number, Ack: ack, Frame: f}
}

func bare(epoch, ack int) api.Packet { return api.Packet{Epoch: epoch, Bare: true, Ack: ack} }

// heard: a side whose Link and Edge heard one more.
func heard(s api.Side) api.Side {
	s.Link.Heard++
	s.Edge.Heard++
	return s
}

// P6.9: an Edit of a child, at the root.
func TestHearEditOfAChild(t *testing.T) {
	own := api.Op{keep(2), insert("U"), remove(1)}
	n := top()
	n.Text, n.Marks, n.Undo = "aéU", []api.Mark{{Anchor: 2, Head: 3}}, []api.Op{{keep(3)}, {keep(2), insert("世"), remove(1)}}
	n.Sides[0] = sent(n.Sides[0], own)
	n.Sides[1].Edge, n.Sides[1].Link.Heard = api.Edge{Sent: 4, Heard: 3}, 9
	o := api.Op{remove(1), keep(1), insert("low"), keep(1)}
	here := api.Op{remove(1), keep(2), insert("low")}
	want := but(n, func(n *api.Node) {
		n.Text, n.Marks = "éUlow", []api.Mark{{Anchor: 1, Head: 2}}
		n.Undo = []api.Op{{keep(5)}, {keep(1), insert("世"), remove(1), keep(3)}}
		first := heard(n.Sides[0])
		first.Edge.Pending = []api.Op{{keep(1), insert("U"), keep(3), remove(1)}}
		n.Sides = []api.Side{first, sent(n.Sides[1], here)}
	})
	got, e := Hear(tree, n, 1, packet(5, 1, 0, editOf(0, o)))
	sameTurn(t, "Hear", got, e, api.Turn{Node: want, Records: []api.Record{{Op: here}}, Posts: []api.Post{
		answered(1, 5, 1), posted(2, 6, 1, 9, editOf(3, here)),
	}})
}

// P6.9: an Edit of the parent: where both insert, its text stands ahead.
func TestHearEditOfTheParent(t *testing.T) {
	own := api.Op{keep(1), insert("low"), keep(2)}
	n := middle()
	n.Text, n.Marks, n.Undo = "alowé世", []api.Mark{{Anchor: 1, Head: 4}}, []api.Op{{keep(1), remove(3), keep(2)}}
	n.Sides[0] = sent(n.Sides[0], own)
	n.Sides[0].Edge.Heard, n.Sides[0].Link.Heard = 2, 2
	n.Sides[2] = joined(4, 7)
	o := api.Op{keep(1), insert("U"), keep(2)}
	here := api.Op{keep(1), insert("U"), keep(5)}
	want := but(n, func(n *api.Node) {
		n.Text, n.Marks, n.Undo = "aUlowé世", []api.Mark{{Anchor: 1, Head: 5}}, []api.Op{{keep(2), remove(3), keep(2)}}
		first := heard(n.Sides[0])
		first.Edge.Pending = []api.Op{{keep(2), insert("low"), keep(2)}}
		n.Sides = []api.Side{first, sent(n.Sides[1], here), sent(n.Sides[2], here)}
	})
	got, e := Hear(tree, n, 0, packet(5, 3, 0, editOf(0, o)))
	sameTurn(t, "Hear", got, e, api.Turn{Node: want, Posts: []api.Post{
		answered(0, 5, 3), posted(3, 9, 1, 0, editOf(0, here)), posted(4, 7, 1, 0, editOf(0, here)),
	}})
	want.Sides[0].Edge.Pending, want.Sides[0].Link.Sent = nil, nil
	n.Text = "aé世"
	n.Undo, n.Marks, n.Sides[1] = nil, nil, apart(3)
	n.Sides[0].Edge.Pending = []api.Op{{keep(3)}}
	got, e = Hear(tree, n, 0, packet(5, 3, 1, editOf(1, o)))
	if e != api.OK || got.Node.Text != "aUé世" || told(got.Node.Sides[0]) != told(want.Sides[0]) || told(got.Node.Sides[1]) != told(apart(3)) {
		t.Errorf("the parent knows all: %v %v", e, got)
	}
}

// P6.9: an Edit of a child goes to the parent, and to the other children.
func TestHearEditGoesOn(t *testing.T) {
	o := api.Op{keep(3), insert("x")}
	n := middle()
	n.Sides[2] = joined(4, 7)
	want := but(n, func(n *api.Node) {
		n.Text = "aé世x"
		n.Sides = []api.Side{sent(n.Sides[0], o), heard(n.Sides[1]), sent(n.Sides[2], o)}
	})
	got, e := Hear(tree, n, 3, packet(9, 1, 0, editOf(0, o)))
	sameTurn(t, "Hear", got, e, api.Turn{Node: want, Posts: []api.Post{
		answered(3, 9, 1), posted(0, 5, 1, 0, editOf(0, o)), posted(4, 7, 1, 0, editOf(0, o)),
	}})
}

// P6.9: where a neighbour's text is inserted right at a mark, the mark stays.
func TestHearDoesNotPushMarks(t *testing.T) {
	n := top()
	n.Marks = []api.Mark{{Anchor: 0, Head: 3}}
	got, e := Hear(tree, n, 1, packet(5, 1, 0, editOf(0, api.Op{insert("xy"), keep(3), insert("z")})))
	if e != api.OK || got.Node.Text != "xyaé世z" || got.Node.Marks[0] != (api.Mark{Anchor: 0, Head: 5}) {
		t.Errorf("%v %v", e, got)
	}
}

// P6.9: what cannot be brought behind an operation is undone never more.
func TestHearForgetsUndo(t *testing.T) {
	for _, more := range []int{10, 9} {
		n := top()
		n.Text = long(api.MaxText - 10)
		n.Undo = []api.Op{{keep(api.MaxText - 10 + more)}, {keep(api.MaxText - 10), insert(long(more))}, {keep(api.MaxText - 10)}}
		got, e := Hear(tree, n, 1, packet(5, 1, 0, editOf(0, api.Op{insert("x"), keep(api.MaxText - 10)})))
		want := []api.Op{{keep(api.MaxText)}, {keep(api.MaxText - 9), insert(long(9))}, {keep(api.MaxText - 9)}}
		if more == 10 {
			want = nil
		}
		if e != api.OK || told(got.Node.Undo) != told(want) || got.Node.Text != "x"+n.Text || len(got.Records) != 1 || len(got.Posts) != 2 {
			t.Errorf("%d: %v %v", more, e, got.Node.Undo)
		}
	}
}

// P6.9: the operation comes first, so that its text stands ahead of what an undoing brings.
func TestHearBringsUndoBehind(t *testing.T) {
	n := middle()
	n.Text, n.Undo = "b", []api.Op{{keep(1), insert("c"), keep(1)}, {insert("a"), keep(1)}}
	for _, from := range []int{0, 3} {
		side := placeOf(n, from)
		got, e := Hear(tree, n, from, packet(n.Sides[side].Link.Epoch, 1, 0, editOf(0, api.Op{insert("x"), keep(1), insert("y")})))
		want := []api.Op{{keep(2), insert("c"), keep(2)}, {keep(1), insert("a"), keep(2)}}
		if e != api.OK || got.Node.Text != "xby" || told(got.Node.Undo) != told(want) {
			t.Errorf("from %d: %v %v", from, e, got.Node)
		}
	}
}

// P6.9: what is refused on the way to the new text changes nothing but the Link.
func TestHearEditThatIsRefused(t *testing.T) {
	for i, c := range []struct {
		text string
		edge api.Edge
		f    api.Frame
	}{
		{"aé世", api.Edge{}, editOf(1, api.Op{keep(3)})},
		{"aé世", api.Edge{Sent: 3, Heard: 1}, editOf(2, api.Op{keep(3)})},
		{"aé世", api.Edge{Sent: 3, Heard: 1, Pending: []api.Op{{keep(3)}}}, editOf(1, api.Op{keep(3)})},
		{"aé世", api.Edge{Sent: 3, Heard: 1, Pending: []api.Op{{keep(3)}}}, editOf(2, api.Op{keep(4)})},
		{"aé世", api.Edge{Heard: most}, editOf(0, api.Op{keep(3)})},
		{"aé世", api.Edge{}, editOf(0, api.Op{keep(2)})},
		{"aé世", api.Edge{}, editOf(0, api.Op{keep(4)})},
		{"aé世", api.Edge{}, editOf(0, nil)},
		{"aé世", api.Edge{Sent: 3, Heard: 1, Pending: []api.Op{{keep(3)}}}, editOf(3, api.Op{keep(2)})},
		{long(api.MaxText), api.Edge{Sent: 1, Pending: []api.Op{{keep(api.MaxText - 1), insert("é")}}}, editOf(0, api.Op{insert("x"), keep(api.MaxText - 1)})},
	} {
		n := middle()
		n.Text, n.Undo, n.Marks = c.text, []api.Op{{keep(len([]rune(c.text)))}}, []api.Mark{{Anchor: 1, Head: 2}}
		n.Sides[1].Edge = c.edge
		want := but(n, func(n *api.Node) {
			n.Sides = []api.Side{n.Sides[0], n.Sides[1], n.Sides[2]}
			n.Sides[1].Link.Heard++
		})
		got, e := Hear(tree, n, 3, packet(9, 1, 0, c.f))
		sameTurn(t, fmt.Sprintf("case %d", i), got, e, api.Turn{Node: want, Posts: []api.Post{answered(3, 9, 1)}})
	}
}

// P6.9: what comes twice or too early is answered, and does nothing.
func TestHearOnlyTheNext(t *testing.T) {
	n := top()
	n.Sides[0].Link.Heard = 4
	for _, number := range []int{1, 3, 4, 6, most} {
		got, e := Hear(tree, n, 1, packet(5, number, 0, editOf(0, api.Op{keep(3), insert("x")})))
		sameTurn(t, fmt.Sprint(number), got, e, api.Turn{Node: n, Posts: []api.Post{answered(1, 5, 4)}})
	}
	got, e := Hear(tree, n, 1, bare(5, 9))
	sameTurn(t, "bare", got, e, api.Turn{Node: n})
}

// P6.9: what waits on the Link goes on, ahead of what is spread.
func TestHearLinkGoesOn(t *testing.T) {
	o := api.Op{keep(3), insert("x")}
	n := top()
	n.Sides[0].Link = api.Link{Epoch: 5, Next: 11, Heard: 2}
	for i := range api.MaxWindow {
		n.Sides[0].Link.Sent = append(n.Sides[0].Link.Sent, editOf(i, nil))
	}
	n.Sides[0].Link.Queue = []api.Frame{editOf(50, nil), editOf(51, nil)}
	link := api.Link{Epoch: 5, Next: 12, Heard: 3, Sent: append(n.Sides[0].Link.Sent[1:], editOf(50, nil)), Queue: []api.Frame{editOf(51, nil)}}
	want := but(n, func(n *api.Node) {
		n.Text = "aé世x"
		n.Sides = []api.Side{{Peer: 1, Joined: true, Edge: api.Edge{Heard: 1}, Link: link}, sent(n.Sides[1], o)}
	})
	got, e := Hear(tree, n, 1, packet(5, 3, 3, editOf(0, o)))
	sameTurn(t, "Hear", got, e, api.Turn{Node: want, Records: []api.Record{{Op: o}}, Posts: []api.Post{
		posted(1, 5, 11, 3, editOf(50, nil)), answered(1, 5, 3), posted(2, 6, 1, 0, editOf(0, o)),
	}})
}

// P6.9: the text comes.
func TestHearWhole(t *testing.T) {
	for _, s := range []string{"", "aé世", long(api.MaxText)} {
		n := waiting()
		n.Sides[1].Link = api.Link{Epoch: 4, Next: 1}
		want := but(n, func(n *api.Node) {
			n.Ready, n.Text = true, s
			n.Sides = []api.Side{{Peer: 0, Joined: true, Link: api.Link{Epoch: 5, Next: 2, Heard: 1}}, n.Sides[1], n.Sides[2]}
		})
		got, e := Hear(tree, n, 0, packet(5, 1, 1, wholeOf(5, s)))
		sameTurn(t, "Hear", got, e, api.Turn{Node: want, Posts: []api.Post{answered(0, 5, 1)}})
	}
}

// P6.9: all other frames do nothing, but that they were heard.
func TestHearOtherFrames(t *testing.T) {
	strange := waiting()
	strange.Sides[0].Link = api.Link{Epoch: 4, Next: 1}
	session := middle()
	session.Sides[2].Link = api.Link{Epoch: 5, Next: 1}
	for i, c := range []struct {
		n    api.Node
		from int
		f    api.Frame
	}{
		{waiting(), 0, wholeOf(4, "x")},
		{waiting(), 0, wholeOf(6, "x")},
		{waiting(), 0, joinOf(5, 5)},
		{waiting(), 0, joinOf(5, 3)},
		{waiting(), 0, editOf(0, api.Op{insert("x")})},
		{waiting(), 0, editOf(0, nil)},
		{strange, 0, wholeOf(4, "x")},
		{middle(), 0, wholeOf(5, "x")},
		{middle(), 0, wholeOf(9, "x")},
		{middle(), 0, joinOf(5, 5)},
		{middle(), 3, wholeOf(5, "x")},
		{middle(), 3, wholeOf(9, "x")},
		{middle(), 3, joinOf(9, 5)},
		{middle(), 3, joinOf(10, 5)},
		{session, 4, wholeOf(5, "x")},
		{session, 4, joinOf(5, 5)},
		{session, 4, editOf(0, api.Op{keep(3), insert("x")})},
		{top(), 1, wholeOf(3, "x")},
		{top(), 1, joinOf(5, 3)},
	} {
		at := placeOf(c.n, c.from)
		want := but(c.n, func(n *api.Node) {
			n.Sides = append([]api.Side(nil), n.Sides...)
			n.Sides[at].Link.Heard++
		})
		epoch := c.n.Sides[at].Link.Epoch
		got, e := Hear(tree, c.n, c.from, packet(epoch, 1, 0, c.f))
		sameTurn(t, fmt.Sprintf("case %d", i), got, e, api.Turn{Node: want, Posts: []api.Post{answered(c.from, epoch, 1)}})
	}
}

// P6.9: of a Whole the node's Epoch is asked for, whatever the session's is.
func TestHearWholeInAnotherSession(t *testing.T) {
	n := waiting()
	n.Sides[0].Link = api.Link{Epoch: 4, Next: 1}
	got, e := Hear(tree, n, 0, packet(4, 1, 0, wholeOf(5, "x")))
	if e != api.OK || !got.Node.Ready || got.Node.Text != "x" {
		t.Errorf("%v %v", e, got)
	}
}

// wrongPackets may not be, one for each refusal.
var wrongPackets = []struct {
	p    api.Packet
	want api.Errno
}{
	{api.Packet{}, api.ErrForm},
	{bare(-1, 0), api.ErrRange},
	{bare(most+1, 0), api.ErrRange},
	{bare(5, -1), api.ErrRange},
	{packet(5, most+1, 0, joinOf(1, 1)), api.ErrRange},
	{packet(5, 0, 0, joinOf(1, 1)), api.ErrForm},
	{packet(0, 1, 0, joinOf(1, 1)), api.ErrForm},
	{packet(5, 1, 0, api.Frame{}), api.ErrKind},
	{packet(5, 1, 0, wholeOf(5, long(api.MaxText+1))), api.ErrSize},
	{packet(6, 1, 0, joinOf(6, most+1)), api.ErrRange},
	{packet(6, 1, 0, api.Frame{Kind: api.Join, Heard: 5}), api.ErrForm},
}

// P6.9: each refusal, and which is named first.
func TestHearRefuses(t *testing.T) {
	for i, c := range wrongPackets {
		for _, from := range []int{0, 1, 2, 3, 4, 5, -1} {
			for _, n := range []api.Node{middle(), waiting()} {
				got, e := Hear(tree, n, from, c.p)
				refused(t, fmt.Sprintf("packet %d of %d", i, from), got, e, c.want)
			}
		}
	}
	for _, p := range []api.Packet{bare(0, 7), bare(5, 7), packet(9, 1, 0, joinOf(9, 5)), packet(most, 1, 0, joinOf(most, 5))} {
		for _, from := range []int{1, 2, 5, -1, math.MinInt, math.MaxInt} {
			got, e := Hear(tree, middle(), from, p)
			refused(t, fmt.Sprintf("%v of %d", p, from), got, e, api.ErrNode)
		}
		for _, from := range []int{0, 3, 4} {
			got, e := Hear(tree, top(), from, p)
			refused(t, fmt.Sprintf("%v of %d to the root", p, from), got, e, api.ErrNode)
		}
	}
}

// P6.10: the parent knows no such session.
func TestHearStrangeParent(t *testing.T) {
	busy := middle()
	busy.Undo, busy.Marks, busy.Sides[0].Link.Heard = []api.Op{{keep(3)}}, []api.Mark{{Anchor: 1}}, 7
	busy.Sides[1] = sent(busy.Sides[1], api.Op{keep(3)})
	last := but(middle(), func(n *api.Node) { n.Epoch = most - 1 })
	silent := but(waiting(), func(n *api.Node) { n.Sides[0], n.Sides[1].Link.Epoch = apart(0), 8 })
	for i, n := range []api.Node{middle(), waiting(), busy, silent, last} {
		for _, up := range []int{0, 3, 4, most} {
			epoch := min(n.Epoch+1, most-1)
			want := api.Node{Me: 1, Epoch: epoch, Up: up, Sides: []api.Side{apart(0), apart(3), apart(4)}}
			want.Sides[0].Link = asked(epoch, up)
			got, e := Hear(tree, n, 0, bare(0, up))
			sameTurn(t, fmt.Sprintf("node %d", i), got, e, api.Turn{Node: want, Posts: []api.Post{posted(0, epoch, 1, 0, joinOf(epoch, up))}})
		}
		for _, epoch := range []int{1, 4, 6, most} {
			for _, p := range []api.Packet{bare(epoch, 7), packet(epoch, 1, 0, wholeOf(5, "x")), packet(epoch, 1, 0, joinOf(epoch, 5))} {
				got, e := Hear(tree, n, 0, p)
				refused(t, fmt.Sprintf("node %d: %v", i, p), got, e, api.ErrAway)
			}
		}
	}
}

// P6.11: a child joins.
func TestHearJoin(t *testing.T) {
	busy := middle()
	busy.Undo, busy.Marks = []api.Op{{keep(3)}}, []api.Mark{{Anchor: 1}}
	busy.Sides[0] = sent(busy.Sides[0], api.Op{keep(3)})
	busy.Sides[1] = sent(heard(busy.Sides[1]), api.Op{keep(3)})
	known := middle()
	known.Sides[1] = api.Side{Peer: 3, Link: api.Link{Epoch: 9, Next: 5, Heard: 3}}
	for i, n := range []api.Node{middle(), busy, known} {
		for _, epoch := range []int{10, 4096, most} {
			for _, ack := range []int{0, 1, most} {
				link := api.Link{Epoch: epoch, Next: 2, Heard: 1, Sent: []api.Frame{wholeOf(epoch, "aé世")}}
				want := but(n, func(n *api.Node) {
					n.Sides = []api.Side{n.Sides[0], {Peer: 3, Joined: true, Link: link}, n.Sides[2]}
				})
				got, e := Hear(tree, n, 3, packet(epoch, 1, ack, joinOf(epoch, 5)))
				sameTurn(t, fmt.Sprintf("node %d, epoch %d", i, epoch), got, e, api.Turn{Node: want, Posts: []api.Post{
					answered(3, epoch, 1), posted(3, epoch, 1, 1, wholeOf(epoch, "aé世")),
				}})
			}
		}
	}
	got, e := Hear(tree, middle(), 4, packet(1, 1, 0, joinOf(1, 5)))
	if e != api.OK || !got.Node.Sides[2].Joined || len(got.Posts) != 2 || got.Posts[0].To != 4 || got.Posts[1].To != 4 {
		t.Errorf("one that was never heard of: %v %v", e, got)
	}
	n := but(top(), func(n *api.Node) { n.Text = "" })
	got, e = Hear(tree, n, 1, packet(6, 1, 0, joinOf(6, 3)))
	if e != api.OK || told(got.Posts) != told([]api.Post{answered(1, 6, 1), posted(1, 6, 1, 1, wholeOf(6, ""))}) {
		t.Errorf("the root's text is empty: %v %v", e, got)
	}
}

// P6.11: a packet of a child's new epoch that is no such Join tells the child this node's epoch.
func TestHearStrangeChild(t *testing.T) {
	for _, c := range []struct {
		n              api.Node
		from, epoch    int
		own, childKnew int
	}{
		{middle(), 3, 10, 5, 9}, {middle(), 3, most, 5, 9}, {middle(), 4, 1, 5, 0}, {waiting(), 3, 10, 5, 0}, {top(), 1, 6, 3, 5}, {top(), 2, 4096, 3, 6},
	} {
		for _, p := range []api.Packet{
			bare(c.epoch, 0), bare(c.epoch, c.own),
			packet(c.epoch, 1, 0, joinOf(c.epoch, 0)),
			packet(c.epoch, 1, 0, joinOf(c.epoch, c.own-1)),
			packet(c.epoch, 1, 0, joinOf(c.epoch, c.own+1)),
			packet(c.epoch, 1, 0, joinOf(c.epoch, most)),
			packet(c.epoch, 2, 0, joinOf(c.epoch, c.own)),
			packet(c.epoch, most, 0, joinOf(c.epoch, c.own)),
			packet(c.epoch, 1, 0, joinOf(c.epoch%most+1, c.own)),
			packet(c.epoch, 1, 0, wholeOf(c.epoch, "x")),
			packet(c.epoch, 1, 0, wholeOf(c.own, "")),
			packet(c.epoch, 1, 0, editOf(c.own, api.Op{keep(3)})),
			packet(c.epoch, 1, 0, editOf(c.own, nil)),
		} {
			got, e := Hear(tree, c.n, c.from, p)
			sameTurn(t, fmt.Sprint(p), got, e, api.Turn{Node: c.n, Posts: []api.Post{answered(c.from, 0, c.own)}})
			p.Epoch = c.childKnew - 1
			if p.Epoch > 0 {
				got, e = Hear(tree, c.n, c.from, p)
				refused(t, fmt.Sprint("of an old epoch: ", p), got, e, api.ErrAway)
			}
		}
		got, e := Hear(tree, c.n, c.from, bare(0, 9))
		refused(t, "of no epoch", got, e, api.ErrAway)
	}
}

// P6.11: an old Join, and one to a node that has no text yet.
func TestHearJoinRefuses(t *testing.T) {
	for _, epoch := range []int{1, 8} {
		got, e := Hear(tree, middle(), 3, packet(epoch, 1, 0, joinOf(epoch, 5)))
		refused(t, "an old one", got, e, api.ErrAway)
	}
	n := waiting()
	n.Sides[1].Link = api.Link{Epoch: 9, Next: 1}
	for _, from := range []int{3, 4} {
		got, e := Hear(tree, n, from, packet(10, 1, 0, joinOf(10, 5)))
		refused(t, "not Ready", got, e, api.ErrAway)
	}
	got, e := Hear(tree, n, 3, packet(8, 1, 0, joinOf(8, 5)))
	refused(t, "an old one, not Ready", got, e, api.ErrAway)
}
