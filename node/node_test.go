package node

import (
	"fmt"
	"math"
	"strings"
	"testing"

	"wherry/api"
)

// told: a list without elements may be nil or not.
func told(l ...any) string { return strings.ReplaceAll(fmt.Sprintf("%v", l), "<nil>", "[]") }

// sameTurn: is it the turn that is wanted, and may its node be?
func sameTurn(t *testing.T, what string, got api.Turn, e api.Errno, want api.Turn) {
	t.Helper()
	if e != api.OK || told(got) != told(want) {
		t.Errorf("%s: %v\n%v, want\n%v", what, e, got, want)
	}
	if e := Check(tree, got.Node); e != api.OK {
		t.Errorf("%s: %v may not be: %v", what, got.Node, e)
	}
}

// refused: an error, and nothing else.
func refused(t *testing.T, what string, got api.Turn, e, want api.Errno) {
	t.Helper()
	if e != want || told(got) != told(api.Turn{}) {
		t.Errorf("%s: %v %v, want %v", what, got, e, want)
	}
}

// posted: a packet with a frame.
func posted(to, epoch, number, ack int, f api.Frame) api.Post {
	return api.Post{To: to, Packet: api.Packet{Epoch: epoch, Number: number, Ack: ack, Frame: f}}
}

// answered: a bare packet.
func answered(to, epoch, ack int) api.Post {
	return api.Post{To: to, Packet: api.Packet{Epoch: epoch, Bare: true, Ack: ack}}
}

func editOf(heard int, o api.Op) api.Frame { return api.Frame{Kind: api.Edit, Heard: heard, Op: o} }
func wholeOf(epoch int, s string) api.Frame {
	return api.Frame{Kind: api.Whole, Epoch: epoch, Text: s}
}
func joinOf(epoch, up int) api.Frame { return api.Frame{Kind: api.Join, Epoch: epoch, Heard: up} }

// sent: a side on which an operation was sent, the first one of a session in which so many were heard.
func sent(s api.Side, o api.Op) api.Side {
	s.Edge.Sent++
	s.Edge.Pending = append(s.Edge.Pending, o)
	s.Link.Next++
	s.Link.Sent = append(s.Link.Sent, editOf(s.Edge.Heard, o))
	return s
}

// operations that may not be on a text of three runes, one for each refusal.
var wrongOps = []struct {
	o    api.Op
	want api.Errno
}{
	{make(api.Op, api.MaxParts+1), api.ErrSize},
	{api.Op{keep(3), insert(long(api.MaxText))}, api.ErrSize},
	{api.Op{keep(3), {}}, api.ErrKind},
	{api.Op{keep(3), remove(0)}, api.ErrRange},
	{api.Op{keep(1), keep(2)}, api.ErrForm},
	{api.Op{keep(3), insert("\xff")}, api.ErrForm},
	{api.Op{keep(2)}, api.ErrMatch},
	{api.Op{keep(4)}, api.ErrMatch},
	{nil, api.ErrMatch},
}

// P6.4, P6.5, and the neighbours of P6.1
func TestBegin(t *testing.T) {
	ask := func(me, to, epoch int, peers ...int) api.Turn {
		n := api.Node{Me: me, Epoch: epoch}
		for _, peer := range peers {
			n.Sides = append(n.Sides, apart(peer))
		}
		n.Sides[0].Link = asked(epoch, 0)
		return api.Turn{Node: n, Posts: []api.Post{posted(to, epoch, 1, 0, joinOf(epoch, 0))}}
	}
	begun := func(epoch int, s string) api.Turn {
		return api.Turn{Node: api.Node{Epoch: epoch, Ready: true, Text: s, Sides: []api.Side{apart(1), apart(2)}}}
	}
	for i, c := range []struct {
		me, births int
		s          string
		want       api.Turn
	}{
		{0, 1, "", begun(4096, "")},
		{0, 2, "aé世", begun(8192, "aé世")},
		{0, api.MaxBirths, long(api.MaxText), begun(4096*api.MaxBirths, long(api.MaxText))},
		{1, 1, "", ask(1, 0, 4096, 0, 3, 4)},
		{1, 3, "", ask(1, 0, 3*4096, 0, 3, 4)},
		{2, 1, "", ask(2, 0, 4096, 0)},
		{3, 1, "", ask(3, 1, 4096, 1)},
		{4, api.MaxBirths, "", ask(4, 1, 4096*api.MaxBirths, 1)},
	} {
		got, e := Begin(tree, c.me, c.births, c.s)
		sameTurn(t, fmt.Sprintf("case %d", i), got, e, c.want)
	}
	got, e := Begin(api.Tree{-1}, 0, 1, "a")
	if want := (api.Turn{Node: api.Node{Epoch: 4096, Ready: true, Text: "a"}}); e != api.OK || told(got) != told(want) {
		t.Errorf("the root alone: %v %v, want %v", got, e, want)
	}
	got, e = Begin(api.Tree{-1, 0, 1, 0, 1, 0, 1}, 1, 1, "")
	if want := ask(1, 0, 4096, 0, 2, 4, 6); e != api.OK || told(got) != told(want) {
		t.Errorf("children here and there: %v %v, want %v", got, e, want)
	}
}

// P6.5: each refusal, and which is named first.
func TestBeginRefuses(t *testing.T) {
	for i, c := range []struct {
		t          api.Tree
		me, births int
		s          string
		want       api.Errno
	}{
		{nil, 9, 0, "\xff", api.ErrSize},
		{api.Tree{0}, 9, 0, "\xff", api.ErrForm},
		{tree, 5, 0, "\xff", api.ErrNode},
		{tree, -1, 0, "", api.ErrNode},
		{tree, math.MinInt, 1, "", api.ErrNode},
		{tree, math.MaxInt, 1, "", api.ErrNode},
		{tree, 5, 1, "", api.ErrNode},
		{tree, 0, 0, "\xff", api.ErrRange},
		{tree, 1, 0, "a", api.ErrRange},
		{tree, 1, -1, "", api.ErrRange},
		{tree, 1, api.MaxBirths + 1, "", api.ErrRange},
		{tree, 0, math.MinInt, "", api.ErrRange},
		{tree, 0, math.MaxInt, "", api.ErrRange},
		{tree, 0, 1, "\xff", api.ErrForm},
		{tree, 0, 1, long(api.MaxText + 1), api.ErrSize},
		{tree, 1, 1, long(api.MaxText + 1), api.ErrSize},
		{tree, 1, 1, "\xff", api.ErrForm},
		{tree, 1, 1, "a", api.ErrForm},
		{tree, 4, 1, long(api.MaxText), api.ErrForm},
	} {
		got, e := Begin(c.t, c.me, c.births, c.s)
		refused(t, fmt.Sprintf("case %d", i), got, e, c.want)
	}
}

// P6.6: at the root, that writes.
func TestEditAtTheRoot(t *testing.T) {
	o, back := api.Op{keep(1), insert("xy"), remove(1), keep(1)}, api.Op{keep(1), insert("é"), remove(2), keep(1)}
	n := top()
	n.Marks = []api.Mark{{Anchor: 1, Head: 2}}
	n.Sides[1].Edge.Heard, n.Sides[1].Link.Heard = 6, 8
	want := but(n, func(n *api.Node) {
		n.Text, n.Undo, n.Marks = "axy世", []api.Op{back}, []api.Mark{{Anchor: 3, Head: 3}}
		n.Sides = []api.Side{sent(n.Sides[0], o), sent(n.Sides[1], o)}
	})
	got, e := Edit(tree, n, o)
	sameTurn(t, "Edit", got, e, api.Turn{Node: want, Records: []api.Record{{Op: o}}, Posts: []api.Post{
		posted(1, 5, 1, 0, editOf(0, o)), posted(2, 6, 1, 8, editOf(6, o)),
	}})
	got, e = Edit(api.Tree{-1}, api.Node{Epoch: 1, Ready: true}, nil)
	if want := (api.Turn{Node: api.Node{Epoch: 1, Ready: true, Undo: []api.Op{nil}}, Records: []api.Record{{}}}); e != api.OK || told(got) != told(want) {
		t.Errorf("nothing is done: %v %v, want %v", got, e, want)
	}
}

// P6.6: at another node, that writes nothing; a child that is not Joined hears nothing.
func TestEditBelow(t *testing.T) {
	o, back := api.Op{keep(3), insert("b")}, api.Op{keep(3), remove(1)}
	n := middle()
	n.Marks = []api.Mark{{Anchor: 3, Head: 0}}
	n.Undo = []api.Op{{keep(1), insert("x"), keep(2)}}
	n.Sides[0].Edge = api.Edge{Sent: 4, Heard: 7, Pending: []api.Op{{keep(3)}}}
	n.Sides[2].Link = api.Link{Epoch: 8, Next: 2, Heard: 1}
	want := but(n, func(n *api.Node) {
		n.Text, n.Undo, n.Marks = "aé世b", append(n.Undo, back), []api.Mark{{Anchor: 4, Head: 0}}
		n.Sides = []api.Side{sent(n.Sides[0], o), sent(n.Sides[1], o), n.Sides[2]}
	})
	got, e := Edit(tree, n, o)
	sameTurn(t, "Edit", got, e, api.Turn{Node: want, Posts: []api.Post{
		posted(0, 5, 1, 0, editOf(7, o)), posted(3, 9, 1, 0, editOf(0, o)),
	}})
}

// P6.6: Undo keeps the last ones.
func TestEditForgets(t *testing.T) {
	n := top()
	for i := range api.MaxUndo + 3 {
		got, e := Edit(tree, n, api.Op{insert("x"), keep(3 + i)})
		if e != api.OK || len(got.Node.Undo) != min(i+1, api.MaxUndo) {
			t.Fatalf("%d: %v: %v", i, e, got.Node.Undo)
		}
		n = got.Node
	}
	for i, o := range n.Undo {
		if want := (api.Op{remove(1), keep(3 + 3 + i)}); told(o) != told(want) {
			t.Errorf("%d: %v, want %v", i, o, want)
		}
	}
}

// full: a side that sent and did not hear so many.
func full(s api.Side, n int, o api.Op) api.Side {
	s.Edge = api.Edge{Sent: n, Pending: times(n, o)}
	return s
}

// P6.6: each refusal, and which is named first.
func TestEditRefuses(t *testing.T) {
	longer := but(top(), func(n *api.Node) { n.Text = long(api.MaxEdit) })
	for _, c := range wrongOps {
		for i, n := range []api.Node{top(), middle(), but(top(), func(n *api.Node) { n.Sides[1] = full(n.Sides[1], api.MaxPending, api.Op{keep(3)}) })} {
			got, e := Edit(tree, n, c.o)
			refused(t, fmt.Sprint("node ", i, c.want), got, e, c.want)
		}
		got, e := Edit(tree, waiting(), c.o)
		refused(t, fmt.Sprint("not Ready", c.want), got, e, api.ErrAway)
	}
	got, e := Edit(tree, waiting(), api.Op{insert("x")})
	refused(t, "not Ready", got, e, api.ErrAway)
	got, e = Edit(tree, longer, api.Op{keep(api.MaxEdit), insert("x")})
	refused(t, "too long", got, e, api.ErrFull)
	got, e = Edit(tree, longer, api.Op{insert("xy"), remove(1), keep(api.MaxEdit - 1)})
	refused(t, "too long, with a deletion", got, e, api.ErrFull)
	for i := range 2 {
		for _, pending := range []int{api.MaxPending, api.MaxPending + 1} {
			n := top()
			n.Sides[i] = full(n.Sides[i], pending, api.Op{keep(3)})
			got, e = Edit(tree, n, api.Op{keep(3)})
			refused(t, fmt.Sprint("side ", i, pending), got, e, api.ErrFull)
		}
	}
}

// P6.6: what is just not refused.
func TestEditAtTheBounds(t *testing.T) {
	for i, c := range []struct {
		from int
		o    api.Op
		to   int
	}{
		{api.MaxEdit - 1, api.Op{keep(api.MaxEdit - 1), insert("é")}, api.MaxEdit},
		{api.MaxEdit, api.Op{insert("é"), remove(1), keep(api.MaxEdit - 1)}, api.MaxEdit},
		{api.MaxText, api.Op{insert("é"), remove(api.MaxText)}, 1},
		{api.MaxText, api.Op{keep(api.MaxText - 1), remove(1)}, api.MaxText - 1},
		{api.MaxText, api.Op{keep(api.MaxText)}, api.MaxText},
	} {
		n := top()
		n.Text = long(c.from)
		if got, e := Edit(tree, n, c.o); e != api.OK || got.Node.Text != long(c.to) || len(got.Posts) != 2 {
			t.Errorf("case %d: %v: %v", i, e, got)
		}
	}
	n := top()
	n.Sides[0] = full(n.Sides[0], api.MaxPending-1, api.Op{keep(3)})
	got, e := Edit(tree, n, api.Op{keep(3)})
	if e != api.OK || len(got.Node.Sides[0].Edge.Pending) != api.MaxPending || len(got.Posts) != 2 {
		t.Errorf("Pending: %v %v", e, got)
	}
}

// P6.3, P6.6: what an Edge or a Link refuses is not sent; what is in the window's way waits.
func TestEditThatIsNotSent(t *testing.T) {
	o, back := api.Op{keep(2), insert("b"), remove(1)}, api.Op{keep(2), insert("世"), remove(1)}
	frame := editOf(0, api.Op{keep(3)})
	window := make([]api.Frame, api.MaxWindow)
	for i := range window {
		window[i] = frame
	}
	for what, c := range map[string]struct {
		s, want api.Side
	}{
		"the Edge refuses": {
			api.Side{Peer: 1, Joined: true, Edge: api.Edge{Sent: most}, Link: api.Link{Epoch: 5, Next: 4}},
			api.Side{Peer: 1, Joined: true, Edge: api.Edge{Sent: most}, Link: api.Link{Epoch: 5, Next: 4}},
		},
		"the Link refuses": {
			api.Side{Peer: 1, Joined: true, Link: api.Link{Epoch: 5, Next: most}},
			api.Side{Peer: 1, Joined: true, Edge: api.Edge{Sent: 1, Pending: []api.Op{o}}, Link: api.Link{Epoch: 5, Next: most}},
		},
		"it waits": {
			api.Side{Peer: 1, Joined: true, Link: api.Link{Epoch: 5, Next: 10, Sent: window}},
			api.Side{Peer: 1, Joined: true, Edge: api.Edge{Sent: 1, Pending: []api.Op{o}}, Link: api.Link{Epoch: 5, Next: 10, Sent: window, Queue: []api.Frame{editOf(0, o)}}},
		},
	} {
		n := top()
		n.Sides[0] = c.s
		want := top()
		want.Text, want.Undo, want.Sides = "aéb", []api.Op{back}, []api.Side{c.want, sent(want.Sides[1], o)}
		got, e := Edit(tree, n, o)
		sameTurn(t, what, got, e, api.Turn{Node: want, Records: []api.Record{{Op: o}}, Posts: []api.Post{posted(2, 6, 1, 0, editOf(0, o))}})
	}
}

// P6.7
func TestUndo(t *testing.T) {
	first, last := api.Op{keep(3), insert("z"), keep(1)}, api.Op{keep(1), insert("xy"), remove(1), keep(1)}
	n := top()
	n.Undo, n.Marks = []api.Op{first, last}, []api.Mark{{Anchor: 1, Head: 3}}
	want := but(n, func(n *api.Node) {
		n.Text, n.Undo, n.Marks = "axy世", n.Undo[:1], []api.Mark{{Anchor: 3, Head: 4}}
		n.Sides = []api.Side{sent(n.Sides[0], last), sent(n.Sides[1], last)}
	})
	got, e := Undo(tree, n)
	sameTurn(t, "the last one", got, e, api.Turn{Node: want, Records: []api.Record{{Op: last}}, Posts: []api.Post{
		posted(1, 5, 1, 0, editOf(0, last)), posted(2, 6, 1, 0, editOf(0, last)),
	}})
	got, e = Undo(tree, got.Node)
	if e != api.OK || got.Node.Text != "axyz世" || len(got.Node.Undo) != 0 || got.Node.Marks[0] != (api.Mark{Anchor: 4, Head: 5}) {
		t.Errorf("the first one: %v %v", e, got)
	}
	got, e = Undo(tree, got.Node)
	refused(t, "there is none", got, e, api.ErrNone)
	n = middle()
	n.Undo = []api.Op{last}
	want = but(n, func(n *api.Node) {
		n.Text, n.Undo, n.Sides = "axy世", nil, []api.Side{sent(n.Sides[0], last), sent(n.Sides[1], last), n.Sides[2]}
	})
	got, e = Undo(tree, n)
	sameTurn(t, "below", got, e, api.Turn{Node: want, Posts: []api.Post{
		posted(0, 5, 1, 0, editOf(0, last)), posted(3, 9, 1, 0, editOf(0, last)),
	}})
}

// P6.7: each refusal, and which is named first.
func TestUndoRefuses(t *testing.T) {
	got, e := Undo(tree, waiting())
	refused(t, "not Ready", got, e, api.ErrAway)
	got, e = Undo(tree, top())
	refused(t, "none", got, e, api.ErrNone)
	n := top()
	n.Sides[0] = full(n.Sides[0], api.MaxPending, api.Op{keep(3)})
	got, e = Undo(tree, n)
	refused(t, "none, and Pending", got, e, api.ErrNone)
	n.Undo = []api.Op{{remove(3)}}
	got, e = Undo(tree, n)
	refused(t, "Pending", got, e, api.ErrFull)
	n = top()
	n.Undo = []api.Op{{keep(3), insert(long(api.MaxEdit - 2))}}
	got, e = Undo(tree, n)
	refused(t, "too long", got, e, api.ErrFull)
	n.Undo = []api.Op{{keep(3), insert(long(api.MaxEdit - 3))}}
	if got, e = Undo(tree, n); e != api.OK || got.Node.Text != "aé世"+long(api.MaxEdit-3) {
		t.Errorf("just not too long: %v %v", e, got)
	}
}

// P6.6, P6.7: all that somebody did is undone, step by step.
func TestUndoBringsTheTextBack(t *testing.T) {
	n := top()
	var texts []string
	for i := range api.MaxUndo {
		o := api.Op{keep(1), insert(long(i + 1)), remove(1), keep(len([]rune(n.Text)) - 2)}
		got, e := Edit(tree, n, o)
		if e != api.OK {
			t.Fatal(e)
		}
		texts = append(texts, n.Text)
		n = got.Node
	}
	for i := len(texts) - 1; i >= 0; i-- {
		got, e := Undo(tree, n)
		if e != api.OK || got.Node.Text != texts[i] || len(got.Node.Undo) != i {
			t.Fatalf("%d: %v %v, want %q", i, e, got.Node, texts[i])
		}
		n = got.Node
	}
}

// P6.8
func TestSelect(t *testing.T) {
	for _, m := range []api.Mark{{}, {Anchor: 3}, {Head: 3}, {Anchor: 1, Head: 2}, {Anchor: 3, Head: 3}} {
		for _, n := range []api.Node{top(), middle(), but(top(), func(n *api.Node) { n.Marks = []api.Mark{{Anchor: 2}} })} {
			n.Undo = []api.Op{{keep(3)}}
			got, e := Select(tree, n, m)
			sameTurn(t, fmt.Sprint(m), got, e, api.Turn{Node: but(n, func(n *api.Node) { n.Marks = []api.Mark{m} })})
		}
	}
	for _, m := range wrongMarks {
		got, e := Select(tree, top(), m)
		refused(t, fmt.Sprint(m), got, e, api.ErrRange)
		got, e = Select(tree, waiting(), m)
		refused(t, fmt.Sprint("not Ready", m), got, e, api.ErrAway)
	}
	got, e := Select(tree, waiting(), api.Mark{})
	refused(t, "not Ready", got, e, api.ErrAway)
}

// P6.12
func TestTick(t *testing.T) {
	o := api.Op{keep(3)}
	n := middle()
	n.Sides[0].Link = api.Link{Epoch: 5, Next: 4, Heard: 2, Sent: []api.Frame{joinOf(5, 3), editOf(1, o)}}
	n.Sides[1].Link.Heard = 7
	got, e := Tick(tree, n)
	sameTurn(t, "middle", got, e, api.Turn{Node: n, Posts: []api.Post{
		posted(0, 5, 2, 2, joinOf(5, 3)), posted(0, 5, 3, 2, editOf(1, o)), answered(3, 9, 7),
	}})
	n.Sides[2].Link = api.Link{Epoch: 6, Next: 1, Heard: 1}
	got, e = Tick(tree, n)
	sameTurn(t, "a child that is not Joined, in a session", got, e, api.Turn{Node: n, Posts: []api.Post{
		posted(0, 5, 2, 2, joinOf(5, 3)), posted(0, 5, 3, 2, editOf(1, o)), answered(3, 9, 7), answered(4, 6, 1),
	}})
	got, e = Tick(tree, waiting())
	sameTurn(t, "waiting", got, e, api.Turn{Node: waiting(), Posts: []api.Post{posted(0, 5, 1, 0, joinOf(5, 3))}})
	n = but(top(), func(n *api.Node) { n.Sides = []api.Side{apart(1), apart(2)} })
	got, e = Tick(tree, n)
	sameTurn(t, "nobody is there", got, e, api.Turn{Node: n})
}
