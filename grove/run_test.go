package grove

import (
	"math"
	"slices"
	"strings"
	"testing"

	"wherry/api"
	"wherry/lines"
)

// refused: with an error there is nothing but the place.
func refused(t *testing.T, what string, tree api.Tree, l []api.Act, at int, want api.Errno) {
	t.Helper()
	if o, place, e := Run(tree, l); told(o) != told(api.Outcome{}) || place != at || e != want {
		t.Errorf("%s: %v %d %v, want %d %v", what, o, place, e, at, want)
	}
}

// P8.1: what CheckTree refuses, whatever the script is.
func TestTreesThatMayNotBe(t *testing.T) {
	for _, c := range []struct {
		t    api.Tree
		want api.Errno
	}{
		{nil, api.ErrSize},
		{api.Tree{}, api.ErrSize},
		{api.Tree{-1, 0, 0, 0, 0, 0, 0, 0}, api.ErrSize},
		{api.Tree{0}, api.ErrForm},
		{api.Tree{-1, 1}, api.ErrForm},
		{api.Tree{-1, -1}, api.ErrForm},
		{api.Tree{-1, 0, math.MinInt}, api.ErrForm},
		{api.Tree{math.MaxInt, 0}, api.ErrForm},
	} {
		for _, l := range [][]api.Act{nil, {}, {ticking()}, {ticking(), {}}, {undoing(-1)}, make([]api.Act, api.MaxActs+1)} {
			refused(t, told(c.t, len(l)), c.t, l, 0, c.want)
		}
	}
}

// P8.1: too many acts, whatever they are; just as many as may be are done.
func TestManyActs(t *testing.T) {
	full := times(api.MaxActs, ticking())
	if o := run(t, api.Tree{-1}, full); slices.Max(o.Codes) != api.OK {
		t.Error(o.Codes)
	}
	refused(t, "one more", two, append(full, ticking()), 0, api.ErrSize)
	refused(t, "acts of no kind", two, make([]api.Act, api.MaxActs+1), 0, api.ErrSize)
	refused(t, "one more, of no kind", two, append(full, api.Act{}), 0, api.ErrSize)
	refused(t, "the last one of no kind", two, append(full[:api.MaxActs-1:api.MaxActs-1], api.Act{}), api.MaxActs-1, api.ErrKind)
}

// P8.1: the first act that may not be tells the error, and its place, though others ahead of it would be done.
func TestActsThatMayNotBe(t *testing.T) {
	for _, c := range []struct {
		a    api.Act
		want api.Errno
	}{
		{api.Act{}, api.ErrKind},
		{api.Act{Kind: 10}, api.ErrKind},
		{api.Act{Kind: math.MinInt, Node: 9}, api.ErrKind},
		{undoing(2), api.ErrRange},
		{starting(-1), api.ErrRange},
		{delivering(0, 2, 0), api.ErrRange},
		{delivering(0, 1, -1), api.ErrRange},
		{copying(0, 1, api.MaxPick+1), api.ErrRange},
		{crashing(0, -1), api.ErrRange},
		{crashing(1, api.MaxTape+1), api.ErrRange},
		{selecting(0, 0, api.MaxText+1), api.ErrRange},
		{selecting(0, -1, 0), api.ErrRange},
		{typing(0, keep(0)), api.ErrRange},
		{typing(0, api.Part{Kind: 4, N: 1}), api.ErrKind},
		{typing(0, keep(1), keep(1)), api.ErrForm},
		{typing(0, insert("\xff")), api.ErrForm},
		{typing(0, keep(api.MaxText), insert("x")), api.ErrSize},
		{api.Act{Kind: api.Type, Op: make(api.Op, api.MaxParts+1)}, api.ErrSize},
		{api.Act{Kind: api.Tick, Node: 1}, api.ErrForm},
		{api.Act{Kind: api.Start, Keep: 1}, api.ErrForm},
		{api.Act{Kind: api.Undo, Op: api.Op{keep(1)}}, api.ErrForm},
	} {
		refused(t, told("alone", c.a.Kind), two, []api.Act{c.a}, 0, c.want)
		refused(t, told("behind others", c.a.Kind), two, script(ticking(), up(), down(), c.a, api.Act{}, undoing(2)), 3, c.want)
	}
}

// joins: the packet with which a node joins first of all, when it was born once.
func joins() api.Packet {
	return api.Packet{Epoch: 4096, Number: 1, Frame: api.Frame{Kind: api.Join, Epoch: 4096}}
}

// asks: a side to the parent from which nothing came yet.
func asks(parent int) api.Side {
	return api.Side{Peer: parent, Link: api.Link{Epoch: 4096, Next: 2, Sent: []api.Frame{joins().Frame}}}
}

// waits: a side to a child from which nothing came yet.
func waits(child int) api.Side { return api.Side{Peer: child, Link: api.Link{Next: 1}} }

// P8.1, P8.3: what there is ahead of the first act.
func TestBeginning(t *testing.T) {
	tape := api.Tape{Data: []byte{0, 0, 1, 1}, Synced: 4}
	none := []api.Packet(nil)
	for _, c := range []struct {
		t    api.Tree
		want api.Outcome
	}{
		{api.Tree{-1}, api.Outcome{
			Nodes: []api.Node{{Epoch: 4096, Ready: true}},
			Up:    []bool{true}, Tape: tape, Flying: [][]api.Packet{none},
		}},
		{two, api.Outcome{
			Nodes: []api.Node{
				{Epoch: 4096, Ready: true, Sides: []api.Side{waits(1)}},
				{Me: 1, Epoch: 4096, Sides: []api.Side{asks(0)}},
			},
			Up: []bool{true, true}, Tape: tape, Flying: [][]api.Packet{none, none, {joins()}, none},
		}},
		{api.Tree{-1, 0, 1}, api.Outcome{
			Nodes: []api.Node{
				{Epoch: 4096, Ready: true, Sides: []api.Side{waits(1)}},
				{Me: 1, Epoch: 4096, Sides: []api.Side{asks(0), waits(2)}},
				{Me: 2, Epoch: 4096, Sides: []api.Side{asks(1)}},
			},
			Up: []bool{true, true, true}, Tape: tape,
			Flying: [][]api.Packet{none, none, none, {joins()}, none, none, none, {joins()}, none},
		}},
	} {
		expect(t, told(c.t), run(t, c.t), c.want)
	}
}

// P8.1: a script without acts and with acts, and a code for each of them, in their order.
func TestCodes(t *testing.T) {
	if o := run(t, two); len(o.Codes) != 0 {
		t.Error(o.Codes)
	}
	o := run(t, two, ticking(), undoing(1), undoing(0), starting(0), typing(0, keep(1)), selecting(0, 0, 1), dropping(0, 1, 7), crashing(1, 0), crashing(1, 0))
	expect(t, "codes", o.Codes, []api.Errno{api.OK, api.ErrAway, api.ErrNone, api.ErrTwice, api.ErrMatch, api.ErrRange, api.ErrNone, api.OK, api.ErrDown})
}

// link of a session of two nodes in which all came.
func quiet(epoch, next, heard int) api.Link {
	return api.Link{Epoch: epoch, Next: next, Heard: heard}
}

// P8.2, P8.4, P8.5: the document's example of the whole, and what there is on its way.
func TestTwoNodes(t *testing.T) {
	a, b := api.Op{insert("a")}, api.Op{insert("b")}
	o := run(t, two, joining(), typing(0, a...), typing(1, b...))
	edit := func(o api.Op) api.Frame { return api.Frame{Kind: api.Edit, Op: o} }
	side := func(peer int, o api.Op) api.Side {
		return api.Side{Peer: peer, Joined: true, Edge: api.Edge{Sent: 1, Pending: []api.Op{o}}, Link: api.Link{Epoch: 4097, Next: 3, Sent: []api.Frame{edit(o)}, Heard: 1}}
	}
	expect(t, "typed", o, api.Outcome{
		Nodes: []api.Node{
			{Epoch: 4096, Ready: true, Text: "a", Sides: []api.Side{side(1, a)}, Undo: []api.Op{{remove(1)}}},
			{Me: 1, Epoch: 4097, Up: 4096, Ready: true, Text: "b", Sides: []api.Side{side(0, b)}, Undo: []api.Op{{remove(1)}}},
		},
		Up:     []bool{true, true},
		Tape:   api.Tape{Data: []byte{0, 0, 1, 1, 0, 0, 5, 0, 1, 2, 1, 'a'}, Synced: 12},
		Flying: [][]api.Packet{{}, {{Epoch: 4097, Number: 2, Ack: 1, Frame: edit(a)}}, {{Epoch: 4097, Number: 2, Ack: 1, Frame: edit(b)}}, {}},
		Codes:  make([]api.Errno, 8),
	})
	o = run(t, two, joining(), typing(0, a...), typing(1, b...), up(), down(), up(), down())
	left := func(peer int, o api.Op) api.Side {
		return api.Side{Peer: peer, Joined: true, Edge: api.Edge{Sent: 1, Heard: 1, Pending: []api.Op{o}}, Link: quiet(4097, 3, 2)}
	}
	expect(t, "delivered", o, api.Outcome{
		Nodes: []api.Node{
			{Epoch: 4096, Ready: true, Text: "ab", Sides: []api.Side{left(1, api.Op{insert("a"), keep(1)})}, Undo: []api.Op{{remove(1), keep(1)}}},
			{Me: 1, Epoch: 4097, Up: 4096, Ready: true, Text: "ab", Sides: []api.Side{left(0, api.Op{keep(1), insert("b")})}, Undo: []api.Op{{keep(1), remove(1)}}},
		},
		Up:     []bool{true, true},
		Tape:   api.Tape{Data: []byte{0, 0, 1, 1, 0, 0, 5, 0, 1, 2, 1, 'a', 0, 0, 7, 0, 2, 1, 1, 2, 1, 'b'}, Synced: 22},
		Flying: make([][]api.Packet, 4),
		Codes:  make([]api.Errno, 12),
	})
}

// Hard inputs: every call ends, and none panics; what lines' Check refuses, and only that, is refused.
func TestEverythingIsAnswered(t *testing.T) {
	n := []int{math.MinInt, -1, 0, 1, 2, api.MaxText, api.MaxPick, api.MaxTape, math.MaxInt}
	ops := []api.Op{nil, {}, {keep(1)}, {keep(math.MaxInt), remove(math.MaxInt)}, {insert("\xff")}, {{}}, {insert(strings.Repeat("𝄞", api.MaxText))}}
	answered := func(a api.Act) {
		e := lines.Check(two, a)
		o, at, f := Run(two, []api.Act{ticking(), a})
		if e != f || e != api.OK && (at != 1 || told(o) != told(api.Outcome{})) || e == api.OK && (at != 0 || len(o.Codes) != 2) {
			t.Fatalf("%v: %v %d %v, and Check says %v", a, o, at, f, e)
		}
	}
	for kind := range 11 {
		for _, a := range n {
			for _, b := range n {
				answered(api.Act{Kind: kind, Node: a, To: b})
				answered(api.Act{Kind: kind, Node: 1, Pick: a})
				answered(api.Act{Kind: kind, Node: a, Keep: b})
				answered(api.Act{Kind: kind, Mark: api.Mark{Anchor: a, Head: b}})
			}
			for _, o := range ops {
				answered(api.Act{Kind: kind, Node: a, Op: o})
			}
		}
	}
}
