package lines

import (
	"strings"
	"testing"

	"wherry/api"
)

// shown: acts, and their lines written out by hand.
var shown = []struct {
	l []api.Act
	s string
}{
	{nil, ""},
	{[]api.Act{typing(0)}, "type 0\n"},
	{[]api.Act{typing(3, keep(2), insert("a"))}, "type 3 k2 i61\n"},
	{[]api.Act{typing(1, insert("\x00\n é世𝄞"), remove(10), keep(api.MaxText-10))}, "type 1 i000a20c3a9e4b896f09d849e d10 k3990\n"},
	{[]api.Act{typing(2, insert("Jkl~\x7f"))}, "type 2 i4a6b6c7e7f\n"},
	{[]api.Act{undoing(0), undoing(2)}, "undo 0\nundo 2\n"},
	{[]api.Act{selecting(1, 2, 0), selecting(0, 0, api.MaxText)}, "select 1 2 0\nselect 0 0 4000\n"},
	{[]api.Act{delivering(0, 1, 3)}, "deliver 0 1 3\n"},
	{[]api.Act{dropping(3, 1, 0)}, "drop 3 1 0\n"},
	{[]api.Act{copying(2, 0, api.MaxPick)}, "copy 2 0 1048576\n"},
	{[]api.Act{ticking()}, "tick\n"},
	{[]api.Act{crashing(0, api.MaxTape), crashing(3, 0)}, "crash 0 8388608\ncrash 3 0\n"},
	{[]api.Act{starting(1)}, "start 1\n"},
	{[]api.Act{ticking(), typing(0), starting(3), ticking()}, "tick\ntype 0\nstart 3\ntick\n"},
}

// P7.2
func TestShow(t *testing.T) {
	for i, c := range shown {
		if s, at, e := Show(tree, c.l); s != c.s || at != 0 || e != api.OK {
			t.Errorf("case %d: %q %d %v, want %q", i, s, at, e, c.s)
		}
	}
}

// P7.2: the first act that may not be tells.
func TestShowRefuses(t *testing.T) {
	for i, c := range []struct {
		l    []api.Act
		at   int
		want api.Errno
	}{
		{[]api.Act{{}}, 0, api.ErrKind},
		{[]api.Act{ticking(), undoing(4)}, 1, api.ErrRange},
		{[]api.Act{ticking(), ticking(), {Kind: api.Tick, Node: 1}, {}}, 2, api.ErrForm},
		{[]api.Act{ticking(), typing(0, wrongSize...), undoing(-1), ticking()}, 1, api.ErrSize},
		{[]api.Act{typing(0, wrongKind...), typing(0, wrongRange...)}, 0, api.ErrKind},
	} {
		if s, at, e := Show(tree, c.l); s != "" || at != c.at || e != c.want {
			t.Errorf("case %d: %q %d %v, want %d %v", i, s, at, e, c.at, c.want)
		}
	}
}

// alike: so many of the same act.
func alike(n int, a api.Act) []api.Act {
	var l []api.Act
	for range n {
		l = append(l, a)
	}
	return l
}

// P7.2: more than MaxActs are refused ahead of what they are.
func TestShowMany(t *testing.T) {
	l := alike(api.MaxActs, ticking())
	if s, at, e := Show(tree, l); s != strings.Repeat("tick\n", api.MaxActs) || at != 0 || e != api.OK {
		t.Errorf("MaxActs: %d bytes, %d %v", len(s), at, e)
	}
	l[api.MaxActs-1] = undoing(4)
	if s, at, e := Show(tree, l); s != "" || at != api.MaxActs-1 || e != api.ErrRange {
		t.Errorf("the last one may not be: %d bytes, %d %v", len(s), at, e)
	}
	for i, a := range []api.Act{ticking(), {}, undoing(4)} {
		if s, at, e := Show(tree, alike(api.MaxActs+1, a)); s != "" || at != 0 || e != api.ErrSize {
			t.Errorf("act %d, one more than MaxActs: %d bytes, %d %v", i, len(s), at, e)
		}
	}
}

// The three calls hold the same tree: what may be in one may not be in another.
func TestNodesOfTheTree(t *testing.T) {
	small := api.Tree{-1}
	if s, at, e := Show(small, []api.Act{undoing(0), undoing(1)}); s != "" || at != 1 || e != api.ErrRange {
		t.Errorf("Show: %q %d %v", s, at, e)
	}
	if l, at, e := Read(small, "undo 0\nundo 1\n"); len(l) != 0 || at != 1 || e != api.ErrRange {
		t.Errorf("Read: %v %d %v", l, at, e)
	}
	if e := Check(small, delivering(0, 1, 0)); e != api.ErrRange {
		t.Errorf("Check: %v", e)
	}
}
