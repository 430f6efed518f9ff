package lines

import (
	"fmt"
	"math"
	"strings"
	"testing"

	"wherry/api"
)

func keep(n int) api.Part      { return api.Part{Kind: api.Keep, N: n} }
func remove(n int) api.Part    { return api.Part{Kind: api.Delete, N: n} }
func insert(s string) api.Part { return api.Part{Kind: api.Insert, Text: s} }

func long(n int) string { return strings.Repeat("é", n) }

// repeated: these parts, over and over, up to so many.
func repeated(n int, l ...api.Part) api.Op {
	var o api.Op
	for i := range n {
		o = append(o, l[i%len(l)])
	}
	return o
}

func typing(node int, l ...api.Part) api.Act {
	return api.Act{Kind: api.Type, Node: node, Op: l}
}
func undoing(node int) api.Act { return api.Act{Kind: api.Undo, Node: node} }
func selecting(node, anchor, head int) api.Act {
	return api.Act{Kind: api.Select, Node: node, Mark: api.Mark{Anchor: anchor, Head: head}}
}
func delivering(node, to, pick int) api.Act {
	return api.Act{Kind: api.Deliver, Node: node, To: to, Pick: pick}
}
func dropping(node, to, pick int) api.Act {
	return api.Act{Kind: api.Drop, Node: node, To: to, Pick: pick}
}
func copying(node, to, pick int) api.Act {
	return api.Act{Kind: api.Copy, Node: node, To: to, Pick: pick}
}
func ticking() api.Act { return api.Act{Kind: api.Tick} }
func crashing(node, kept int) api.Act {
	return api.Act{Kind: api.Crash, Node: node, Keep: kept}
}
func starting(node int) api.Act { return api.Act{Kind: api.Start, Node: node} }

// tree: the root 0 over 1 and 2; 1 over 3.
var tree = api.Tree{-1, 0, 0, 1}

// told: a list without elements may be nil or not.
func told(l ...any) string { return fmt.Sprintf("%v", l) }

// Operations that may not be, one for each refusal, and one of too many parts.
var (
	wrongSize  = api.Op{keep(api.MaxText), insert("x")}
	wrongRange = api.Op{keep(0)}
	wrongKind  = api.Op{{Kind: 4, N: 1}}
	wrongForm  = api.Op{keep(1), keep(1)}
	tooMany    = make(api.Op, api.MaxParts+1)
)

// badTrees, and what they are refused with.
var badTrees = []struct {
	t    api.Tree
	want api.Errno
}{
	{nil, api.ErrSize},
	{api.Tree{}, api.ErrSize},
	{api.Tree{-1, 0, 0, 0, 0, 0, 0, 0}, api.ErrSize},
	{api.Tree{0}, api.ErrForm},
	{api.Tree{-1, 1}, api.ErrForm},
	{api.Tree{-1, 0, math.MinInt}, api.ErrForm},
}

// P7.1: what CheckTree refuses, all refuse, whatever else is wrong; the place is 0.
func TestTreesThatMayNotBe(t *testing.T) {
	acts := [][]api.Act{nil, {ticking()}, {ticking(), {}}, {undoing(-1)}, make([]api.Act, api.MaxActs+1)}
	texts := []string{"", "tick\n", "tick\ntack\n", "tick", "undo -1\n", strings.Repeat("tick\n", api.MaxActs+1)}
	for i, c := range badTrees {
		for k, l := range acts {
			if s, at, e := Show(c.t, l); s != "" || at != 0 || e != c.want {
				t.Errorf("tree %d, acts %d: %q %d %v, want %v", i, k, s, at, e, c.want)
			}
			for _, a := range l[:min(len(l), 2)] {
				if e := Check(c.t, a); e != c.want {
					t.Errorf("tree %d, %v: %v, want %v", i, a, e, c.want)
				}
			}
		}
		for k, s := range texts {
			if l, at, e := Read(c.t, s); len(l) != 0 || at != 0 || e != c.want {
				t.Errorf("tree %d, text %d: %v %d %v, want %v", i, k, l, at, e, c.want)
			}
		}
	}
}

// goodActs may be, in the tree; those at the bounds of numbers and texts among them.
func goodActs() []api.Act {
	return []api.Act{
		typing(0), typing(3, keep(1)),
		{Kind: api.Type, Op: api.Op{}},
		typing(0, insert("a"), remove(2), keep(3), insert("é世𝄞")),
		typing(1, insert(long(api.MaxText)), remove(api.MaxText)),
		typing(2, keep(api.MaxText)),
		typing(2, repeated(2*api.MaxText, keep(1), remove(1))[:api.MaxText]...),
		typing(2, repeated(api.MaxText, insert("\x00"), keep(1))...),
		undoing(0), undoing(3), {Kind: api.Undo, Op: api.Op{}},
		selecting(0, 0, 0), selecting(1, 2, 3), selecting(3, api.MaxText, api.MaxText), selecting(2, api.MaxText, 0), selecting(2, 0, api.MaxText),
		delivering(0, 0, 0), delivering(1, 2, 3), delivering(3, 3, api.MaxPick),
		dropping(0, 0, 0), dropping(2, 3, 1), dropping(3, 3, api.MaxPick),
		copying(0, 0, 0), copying(3, 1, 2), copying(3, 3, api.MaxPick),
		ticking(), {Kind: api.Tick, Op: api.Op{}},
		crashing(0, 0), crashing(1, 2), crashing(3, api.MaxTape),
		starting(0), starting(3),
	}
}

// P7.1
func TestActsThatMayBe(t *testing.T) {
	for i, a := range goodActs() {
		if e := Check(tree, a); e != api.OK {
			t.Errorf("act %d: %v: %v", i, a, e)
		}
	}
	if e := Check(api.Tree{-1, 0, 1, 2, 3, 4, 5}, delivering(6, 5, 0)); e != api.OK {
		t.Errorf("in a tree of MaxNodes: %v", e)
	}
}

// P7.1: each refusal, and which comes first.
func TestCheckRefuses(t *testing.T) {
	for i, c := range []struct {
		a    api.Act
		want api.Errno
	}{
		{api.Act{}, api.ErrKind},
		{api.Act{Kind: 10}, api.ErrKind},
		{api.Act{Kind: -1}, api.ErrKind},
		{api.Act{Kind: math.MinInt}, api.ErrKind},
		{api.Act{Kind: math.MaxInt, Node: -1, Op: wrongSize}, api.ErrKind},
		{api.Act{Kind: 10, Op: wrongForm}, api.ErrKind},

		{undoing(-1), api.ErrRange},
		{undoing(4), api.ErrRange},
		{starting(math.MaxInt), api.ErrRange},
		{starting(math.MinInt), api.ErrRange},
		{typing(4), api.ErrRange},
		{selecting(4, 0, 0), api.ErrRange},
		{selecting(0, -1, 0), api.ErrRange},
		{selecting(0, 0, -1), api.ErrRange},
		{selecting(0, api.MaxText+1, 0), api.ErrRange},
		{selecting(0, 0, api.MaxText+1), api.ErrRange},
		{selecting(0, math.MinInt, math.MaxInt), api.ErrRange},
		{delivering(4, 0, 0), api.ErrRange},
		{delivering(0, 4, 0), api.ErrRange},
		{delivering(0, -1, 0), api.ErrRange},
		{dropping(0, 0, -1), api.ErrRange},
		{copying(0, 0, api.MaxPick+1), api.ErrRange},
		{copying(0, math.MaxInt, math.MinInt), api.ErrRange},
		{crashing(0, -1), api.ErrRange},
		{crashing(0, api.MaxTape+1), api.ErrRange},
		{crashing(-1, math.MaxInt), api.ErrRange},

		// A number that the Kind has not is asked for its bounds all the same, and ahead of the Op.
		{api.Act{Kind: api.Tick, Node: 4}, api.ErrRange},
		{api.Act{Kind: api.Undo, To: -1}, api.ErrRange},
		{api.Act{Kind: api.Undo, To: 4, Op: wrongSize}, api.ErrRange},
		{api.Act{Kind: api.Type, Pick: -1, Op: wrongForm}, api.ErrRange},
		{api.Act{Kind: api.Tick, Pick: api.MaxPick + 1}, api.ErrRange},
		{api.Act{Kind: api.Start, Keep: api.MaxTape + 1, Op: wrongKind}, api.ErrRange},
		{api.Act{Kind: api.Deliver, Mark: api.Mark{Anchor: -1}}, api.ErrRange},
		{api.Act{Kind: api.Crash, Mark: api.Mark{Head: api.MaxText + 1}}, api.ErrRange},
		{api.Act{Kind: api.Tick, Keep: 1, Mark: api.Mark{Head: -1}}, api.ErrRange},

		{typing(0, wrongSize...), api.ErrSize},
		{typing(0, wrongRange...), api.ErrRange},
		{typing(0, wrongKind...), api.ErrKind},
		{typing(0, wrongForm...), api.ErrForm},
		{typing(0, tooMany...), api.ErrSize},
		{typing(0, insert("")), api.ErrForm},
		{typing(0, insert("\xff")), api.ErrForm},
		{typing(0, insert(long(api.MaxText+1))), api.ErrSize},

		// The Op of another Kind is asked ahead of whether it may have one.
		{api.Act{Kind: api.Undo, Op: wrongSize}, api.ErrSize},
		{api.Act{Kind: api.Tick, Node: 1, Op: wrongRange}, api.ErrRange},
		{api.Act{Kind: api.Deliver, Op: wrongKind}, api.ErrKind},
		{api.Act{Kind: api.Start, To: 1, Op: tooMany}, api.ErrSize},
		{api.Act{Kind: api.Type, To: 1, Op: wrongKind}, api.ErrKind},
	} {
		if e := Check(tree, c.a); e != c.want {
			t.Errorf("case %d: kind %d: %v, want %v", i, c.a.Kind, e, c.want)
		}
	}
}

// hasOf each Kind, by the words of P7.1.
var hasOf = map[int]string{
	api.Type: "Node Op", api.Undo: "Node", api.Start: "Node", api.Select: "Node Mark", api.Deliver: "Node To Pick",
	api.Drop: "Node To Pick", api.Copy: "Node To Pick", api.Tick: "", api.Crash: "Node Keep",
}

// P7.1: each thing that a Kind has may be there, alone and with others; no other may.
func TestEachKindHasItsOwn(t *testing.T) {
	things := []struct {
		name string
		set  func(a *api.Act)
	}{
		{"Node", func(a *api.Act) { a.Node = 3 }},
		{"To", func(a *api.Act) { a.To = 1 }},
		{"Pick", func(a *api.Act) { a.Pick = api.MaxPick }},
		{"Keep", func(a *api.Act) { a.Keep = 1 }},
		{"Op", func(a *api.Act) { a.Op = api.Op{keep(1)} }},
		{"Mark", func(a *api.Act) { a.Mark.Anchor = 1 }},
		{"Mark", func(a *api.Act) { a.Mark.Head = api.MaxText }},
	}
	for kind := api.Type; kind <= api.Start; kind++ {
		for which := range 1 << len(things) {
			a, want := api.Act{Kind: kind}, api.OK
			for i, x := range things {
				if which>>i&1 == 0 {
					continue
				}
				x.set(&a)
				if !strings.Contains(hasOf[kind], x.name) {
					want = api.ErrForm
				}
			}
			if e := Check(tree, a); e != want {
				t.Errorf("%v: %v, want %v", a, e, want)
			}
		}
	}
}
