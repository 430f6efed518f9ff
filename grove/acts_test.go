package grove

import (
	"strings"
	"testing"

	"wherry/api"
	"wherry/node"
)

// P8.4: what is refused at a node is the code, and changes nothing; a node that is down does nothing.
func TestRefusedAtANode(t *testing.T) {
	typed := script(joining(), typing(0, insert("a")))
	ready := script(joining(), typing(1, insert("aé")), undoing(1), typing(1, insert("世")))
	dead := script(ready, crashing(0, 0), crashing(1, 0))
	long := strings.Repeat("é", api.MaxEdit)
	for i, c := range []struct {
		ahead []api.Act
		a     api.Act
		want  api.Errno
	}{
		{nil, typing(1, insert("a")), api.ErrAway},
		{nil, typing(1, keep(1)), api.ErrAway},
		{nil, undoing(1), api.ErrAway},
		{nil, selecting(1, 0, 0), api.ErrAway},
		{typed, typing(0, insert("a")), api.ErrMatch},
		{typed, typing(0, keep(2)), api.ErrMatch},
		{typed, typing(0, keep(1), insert(long)), api.ErrFull},
		{typed, typing(1, remove(1)), api.ErrMatch},
		{joining(), undoing(0), api.ErrNone},
		{typed, undoing(1), api.ErrNone},
		{script(typed, undoing(0)), undoing(0), api.ErrNone},
		{typed, selecting(0, 0, 2), api.ErrRange},
		{typed, selecting(1, 1, 0), api.ErrRange},
		{ready, selecting(1, 2, 0), api.ErrRange},
		{script(joining(), times(api.MaxPending, typing(0))), typing(0), api.ErrFull},
		{dead, typing(0, insert("a")), api.ErrDown},
		{dead, typing(1, keep(1)), api.ErrDown},
		{dead, undoing(0), api.ErrDown},
		{dead, undoing(1), api.ErrDown},
		{dead, selecting(0, 0, 0), api.ErrDown},
		{dead, selecting(1, 4, 4), api.ErrDown},
	} {
		was, is := run(t, two, c.ahead), run(t, two, c.ahead, c.a)
		if last(is) != c.want || withoutCodes(was) != withoutCodes(is) {
			t.Errorf("case %d: %v, want %v: %v became %v", i, last(is), c.want, was, is)
		}
	}
}

// P8.4: what is done at a node is what P6 says: each of them at the Node, with the act's own Op and Mark.
func TestDoneAtANode(t *testing.T) {
	ahead := script(joining(), typing(1, insert("aé世")), up(), down())
	was := run(t, two, ahead)
	o := api.Op{keep(1), insert("x"), remove(2)}
	for me := range two {
		n := was.Nodes[me]
		edited, e := node.Edit(two, n, o)
		selected, f := node.Select(two, n, api.Mark{Anchor: 3, Head: 1})
		if e != api.OK || f != api.OK {
			t.Fatal(e, f)
		}
		for _, c := range []struct {
			a    api.Act
			want api.Node
		}{{typing(me, o...), edited.Node}, {selecting(me, 3, 1), selected.Node}} {
			is := run(t, two, ahead, c.a)
			expect(t, told(c.a), is.Nodes[me], c.want)
			expect(t, "its code", last(is), api.OK)
			expect(t, "the other one", is.Nodes[1-me], was.Nodes[1-me])
		}
	}
	undone := run(t, two, ahead, undoing(1))
	expect(t, "undone", texts(undone), []string{"aé世", ""})
	expect(t, "its code", last(undone), api.OK)
}

// three packets are on the way from the root to its child, of the numbers 2, 3 and 4.
func three() []api.Act {
	return script(joining(), typing(0, insert("a")), typing(0, keep(1), insert("b")), typing(0, keep(2), insert("c")))
}

// P8.5: which packet it is, and what is on the way then.
func TestPick(t *testing.T) {
	for i, c := range []struct {
		a    api.Act
		want []int
	}{
		{dropping(0, 1, 0), []int{3, 4}},
		{dropping(0, 1, 1), []int{2, 4}},
		{dropping(0, 1, 2), []int{2, 3}},
		{dropping(0, 1, 3), []int{3, 4}},
		{dropping(0, 1, 4), []int{2, 4}},
		{dropping(0, 1, api.MaxPick), []int{2, 4}}, // 3 * 349525 + 1
		{delivering(0, 1, 0), []int{3, 4}},
		{delivering(0, 1, 1), []int{2, 4}},
		{delivering(0, 1, 5), []int{2, 3}},
		{delivering(0, 1, api.MaxPick), []int{2, 4}},
		{copying(0, 1, 0), []int{2, 3, 4, 2}},
		{copying(0, 1, 1), []int{2, 3, 4, 3}},
		{copying(0, 1, 2), []int{2, 3, 4, 4}},
		{copying(0, 1, 3), []int{2, 3, 4, 2}},
		{copying(0, 1, api.MaxPick), []int{2, 3, 4, 3}},
	} {
		was, is := run(t, two, three()), run(t, two, three(), c.a)
		expect(t, told("case", i), numbers(is.Flying[1]), c.want)
		expect(t, told("code of case", i), last(is), api.OK)
		if c.a.Kind != api.Deliver && told(was.Nodes, was.Tape, was.Flying[2]) != told(is.Nodes, is.Tape, is.Flying[2]) {
			t.Errorf("case %d: %v became %v", i, was, is)
		}
	}
}

// P8.5: who hears what is delivered, from whom, and what is lost, comes twice, or late.
func TestDelivered(t *testing.T) {
	for i, c := range []struct {
		l    []api.Act
		text string // at the child
		back int    // packets of the child
	}{
		{script(), "", 0},
		{script(down()), "a", 1},
		{script(delivering(0, 1, 1)), "", 1},
		{script(delivering(0, 1, 1), down()), "a", 2},
		{script(delivering(0, 1, 1), down(), down()), "a", 3},
		{script(down(), down(), down()), "abc", 3},
		{script(copying(0, 1, 0), down(), delivering(0, 1, 2)), "a", 2},
		{script(dropping(0, 1, 0), down(), down()), "", 2},
		{script(dropping(0, 1, 0), down(), down(), up(), ticking(), down(), down(), down()), "abc", 5},
	} {
		o := run(t, two, three(), c.l)
		expect(t, told("case", i), o.Nodes[1].Text, c.text)
		expect(t, told("back of case", i), len(o.Flying[2]), c.back)
	}
}

// P8.5: the codes, and their order.
func TestCarriedOrNot(t *testing.T) {
	quiet := joining()
	full := script(three(), times(api.MaxFlying-3, copying(0, 1, 0)))
	noChild, noRoot := crashing(1, 0), crashing(0, 0)
	for i, c := range []struct {
		ahead []api.Act
		a     api.Act
		want  api.Errno
		left  int // packets from the root to its child
	}{
		{quiet, delivering(0, 1, 0), api.ErrNone, 0},
		{quiet, dropping(0, 1, 7), api.ErrNone, 0},
		{quiet, copying(0, 1, api.MaxPick), api.ErrNone, 0},
		{three(), delivering(0, 0, 0), api.ErrNone, 3},
		{three(), delivering(1, 1, 0), api.ErrNone, 3},
		{three(), delivering(1, 0, 0), api.ErrNone, 3},
		{three(), dropping(1, 0, 0), api.ErrNone, 3},
		{three(), copying(1, 0, 0), api.ErrNone, 3},
		{script(quiet, noChild), delivering(0, 1, 0), api.ErrNone, 0},
		{script(three(), noChild), delivering(0, 1, 0), api.ErrDown, 2},
		{script(three(), noChild), dropping(0, 1, 0), api.OK, 2},
		{script(three(), noChild), copying(0, 1, 0), api.OK, 4},
		{script(three(), noRoot), delivering(0, 1, 0), api.OK, 2},
		{script(three(), noRoot), dropping(0, 1, 0), api.OK, 2},
		{script(three(), noRoot), copying(0, 1, 0), api.OK, 4},
		{full, copying(0, 1, 0), api.ErrFull, api.MaxFlying},
		{script(full, noChild), copying(0, 1, 0), api.ErrFull, api.MaxFlying},
		{script(full, dropping(0, 1, 0)), copying(0, 1, 0), api.OK, api.MaxFlying},
		{full, dropping(0, 1, 0), api.OK, api.MaxFlying - 1},
		{script(three(), noChild, starting(1)), delivering(0, 1, 0), api.ErrAway, 2},
	} {
		was, is := run(t, two, c.ahead), run(t, two, c.ahead, c.a)
		if last(is) != c.want || len(is.Flying[1]) != c.left {
			t.Errorf("case %d: %v with %d packets, want %v with %d", i, last(is), len(is.Flying[1]), c.want, c.left)
		}
		if c.want != api.OK && told(was.Nodes, was.Up, was.Tape, was.Flying[2]) != told(is.Nodes, is.Up, is.Tape, is.Flying[2]) {
			t.Errorf("case %d: %v became %v", i, was, is)
		}
	}
}

// P8.5: To hears it as one of the Node: in a tree of three, of which each one posts to two others.
func TestWays(t *testing.T) {
	tree := api.Tree{-1, 0, 1}
	o := run(t, tree, delivering(1, 0, 0), delivering(0, 1, 0), delivering(1, 0, 0), delivering(0, 1, 0), delivering(0, 1, 0),
		delivering(1, 0, 0), delivering(2, 1, 0), delivering(1, 2, 0), delivering(2, 1, 0), delivering(1, 2, 0), delivering(1, 2, 0), delivering(2, 1, 0),
		typing(1, insert("a")))
	for way, want := range [][]int{{}, {}, {}, {2}, {}, {2}, {}, {}, {}} {
		expect(t, told("way", way), numbers(o.Flying[way]), want)
	}
	expect(t, "their texts", texts(o), []string{"", "a", ""})
	o = run(t, tree, delivering(1, 0, 0), delivering(1, 0, 0), delivering(2, 0, 0), delivering(0, 2, 0), delivering(1, 2, 0))
	expect(t, "codes", o.Codes, []api.Errno{api.OK, api.ErrNone, api.ErrNone, api.ErrNone, api.ErrNone})
}

// P8.6: all that are up tick, and nobody else.
func TestTick(t *testing.T) {
	tree := api.Tree{-1, 0, 0}
	for i, c := range []struct {
		ahead []api.Act
		want  [][]int // numbers of the packets of 1, and of 2, to the root
	}{
		{script(), [][]int{{1}, {1}}},
		{script(ticking()), [][]int{{1, 1}, {1, 1}}},
		{script(crashing(1, 0), ticking()), [][]int{{1}, {1, 1}}},
		{script(crashing(0, 0), crashing(2, 0), ticking(), ticking()), [][]int{{1, 1, 1}, {1}}},
		{script(crashing(0, 0), crashing(1, 0), crashing(2, 0), ticking()), [][]int{{1}, {1}}},
	} {
		o := run(t, tree, c.ahead)
		expect(t, told("case", i), [][]int{numbers(o.Flying[3]), numbers(o.Flying[6])}, c.want)
		for k, e := range o.Codes {
			if e != api.OK {
				t.Errorf("case %d: act %d: %v", i, k, e)
			}
		}
	}
	o := run(t, two, joining(), typing(0, insert("a")), ticking())
	expect(t, "of the root", numbers(o.Flying[1]), []int{2, 2})
	expect(t, "of its child", numbers(o.Flying[2]), []int{0})
}

// P8.7: a node that is down has nothing any more; what is on the way, and all others, stay.
func TestCrash(t *testing.T) {
	ahead := script(three(), selecting(0, 1, 2))
	was := run(t, two, ahead)
	for me := range two {
		is := run(t, two, ahead, crashing(me, 0))
		want := was
		want.Nodes, want.Up = append([]api.Node(nil), was.Nodes...), []bool{true, true}
		want.Nodes[me], want.Up[me] = api.Node{}, false
		if last(is) != api.OK || withoutCodes(is) != withoutCodes(want) {
			t.Errorf("%d: %v %v, want %v", me, last(is), is, want)
		}
		again := run(t, two, ahead, crashing(me, 0), crashing(me, api.MaxTape))
		if last(again) != api.ErrDown || withoutCodes(again) != withoutCodes(is) {
			t.Errorf("%d: %v: %v became %v", me, last(again), is, again)
		}
	}
}

// P8.7, P8.3: a node is born again, once more each time.
func TestStart(t *testing.T) {
	was := run(t, two, joining())
	for me := range two {
		is := run(t, two, joining(), starting(me))
		if last(is) != api.ErrTwice || withoutCodes(is) != withoutCodes(was) {
			t.Errorf("%d: %v: %v became %v", me, last(is), was, is)
		}
	}
	is := run(t, two, three(), crashing(1, 0), starting(1))
	f := api.Frame{Kind: api.Join, Epoch: 2 * 4096}
	expect(t, "its code", last(is), api.OK)
	expect(t, "up", is.Up, []bool{true, true})
	expect(t, "the node", is.Nodes[1], api.Node{Me: 1, Epoch: 2 * 4096, Sides: []api.Side{{Link: api.Link{Epoch: 2 * 4096, Next: 2, Sent: []api.Frame{f}}}}})
	expect(t, "its packet", is.Flying[2], []api.Packet{{Epoch: 2 * 4096, Number: 1, Frame: f}})
	expect(t, "those to it", numbers(is.Flying[1]), []int{2, 3, 4})
	expect(t, "the tape", is.Tape, run(t, two, three()).Tape)
}

// P8.7: a node is born MaxBirths times, and no more; one that is up is refused as such.
func TestManyBirths(t *testing.T) {
	for me := range two {
		var l []api.Act
		for range api.MaxBirths - 1 {
			l = append(l, crashing(me, 0), starting(me))
		}
		o := run(t, two, l)
		expect(t, "the epoch", o.Nodes[me].Epoch, api.MaxBirths*4096)
		expect(t, "its code", last(o), api.OK)
		expect(t, "while it is up", last(run(t, two, l, starting(me))), api.ErrTwice)
		was, is := run(t, two, l, crashing(me, 0)), run(t, two, l, crashing(me, 0), starting(me))
		if last(is) != api.ErrFull || withoutCodes(is) != withoutCodes(was) || is.Up[me] {
			t.Errorf("%d: %v: %v became %v", me, last(is), was, is)
		}
		expect(t, "and again", last(run(t, two, l, crashing(me, 0), starting(me), starting(me))), api.ErrFull)
		expect(t, "the other one", last(run(t, two, l, crashing(1-me, 0), starting(1-me))), api.OK)
	}
}
