package lines

import (
	"math"
	"slices"
	"strings"
	"testing"

	"wherry/api"
)

// roomyOp: the same operation, with something in its spare room.
func roomyOp(o api.Op) api.Op {
	return append(append(api.Op{}, o...), keep(77), insert("spare"))[:len(o)]
}

// roomy: the same acts, with something in the spare room of all lists.
func roomy(l []api.Act) []api.Act {
	var out []api.Act
	for _, a := range append(slices.Clone(l), typing(7, keep(7)), ticking()) {
		a.Op = roomyOp(a.Op)
		out = append(out, a)
	}
	return out[:len(l)]
}

// allOf acts, the spare room of all lists too.
func allOf(l []api.Act) string {
	s := ""
	for _, a := range l[:cap(l)] {
		s += told(a, a.Op[:cap(a.Op)])
	}
	return s
}

// scribble over acts, and over the spare room of all lists.
func scribble(l []api.Act) {
	l = l[:cap(l)]
	for i, a := range l {
		for k := range a.Op[:cap(a.Op)] {
			a.Op[:cap(a.Op)][k] = api.Part{Kind: -9, N: -9, Text: "scribbled"}
		}
		l[i] = api.Act{Kind: -9}
	}
}

// What is handed in is not changed, its spare room neither.
func TestNothingIsChanged(t *testing.T) {
	some := append(api.Tree{}, append(slices.Clone(tree), 77, 78)...)[:len(tree)]
	wantTree := told(some[:cap(some)])
	bad := []api.Act{{Kind: 10, Op: api.Op{keep(1)}}, {Kind: api.Tick, Node: 1, Op: api.Op{keep(1)}, Mark: api.Mark{Head: 1}}, typing(9, keep(1)), typing(0, wrongForm...)}
	for i, l := range [][]api.Act{goodActs(), bad, {}, nil} {
		l = roomy(l)
		want := allOf(l)
		Show(some, l)
		for _, a := range l {
			Check(some, a)
			Show(some, []api.Act{a})
		}
		if got := allOf(l); got != want {
			t.Errorf("acts %d: %s became %s", i, want, got)
		}
	}
	Read(some, "tick\n")
	if got := told(some[:cap(some)]); got != wantTree {
		t.Errorf("the tree became %s", got)
	}
}

// What is read is new memory, shared by no two answers, and by no two lists of one.
func TestReadSharesNothing(t *testing.T) {
	s, _, _ := Show(tree, append(goodActs(), goodActs()...))
	first, _, _ := Read(tree, s)
	second, _, e := Read(tree, s)
	want := told(second)
	scribble(first)
	if e != api.OK || told(second) != want {
		t.Errorf("two answers share memory: %v", e)
	}
	for i := range second {
		rest := told(second[:i], second[i+1:])
		o := second[i].Op[:cap(second[i].Op)]
		for k := range o {
			o[k] = api.Part{Kind: -9}
		}
		if got := told(second[:i], second[i+1:]); got != rest {
			t.Errorf("act %d shares its parts with another one", i)
		}
	}
}

// Hard inputs: every call ends, and none panics; with an error there is nothing but the place; what is taken by Check, and only that, is shown and read.
func TestEverythingIsAnswered(t *testing.T) {
	numbers := []int{math.MinInt, -1, 0, 1, 9, api.MaxText, math.MaxInt}
	ops := []api.Op{nil, {}, {keep(1)}, {keep(math.MaxInt), remove(math.MaxInt)}, {insert("\xff")}, {{}}, tooMany}
	for _, o := range ops {
		for _, a := range numbers {
			for _, b := range numbers {
				for _, kind := range []int{math.MinInt, -1, 0, 1, 2, 3, 4, 5, 6, 7, 8, 9, 10, math.MaxInt} {
					answered(t, api.Act{Kind: kind, Node: a, Op: o})
					answered(t, api.Act{Kind: kind, Node: 1, To: a, Pick: b})
					answered(t, api.Act{Kind: kind, Keep: a, Op: o, Mark: api.Mark{Anchor: b}})
					answered(t, api.Act{Kind: kind, Mark: api.Mark{Anchor: a, Head: b}})
				}
			}
		}
	}
}

// answered: the calls agree on an act.
func answered(t *testing.T, a api.Act) {
	t.Helper()
	e := Check(tree, a)
	s, at, f := Show(tree, []api.Act{ticking(), a})
	if e != f || e != api.OK && (s != "" || at != 1) || e == api.OK && at != 0 {
		t.Fatalf("%v: %q %d %v, and Check says %v", a, s, at, f, e)
	}
	if e != api.OK {
		return
	}
	if l, _, f := Read(tree, s); f != api.OK || told(l) != told([]api.Act{ticking(), a}) {
		t.Fatalf("%v: %q: %v %v", a, s, l, f)
	}
}

// Long texts are read in one go: none of these takes long.
func TestLongTexts(t *testing.T) {
	const n = 1 << 22
	for i, s := range []string{
		strings.Repeat(" ", n), strings.Repeat("\n", n), strings.Repeat("0", n), strings.Repeat("undo", n),
		"undo " + strings.Repeat("1", n) + "\n", "undo -" + strings.Repeat("0", n) + "\n",
		"type 0" + strings.Repeat(" ", n) + "\n", "type 0 i" + strings.Repeat("6", n+1) + "\n", "tick" + strings.Repeat(" 1", n) + "\n",
		"type 0" + strings.Repeat(" k1", n),
	} {
		if l, at, e := Read(tree, s); len(l) != 0 || at != 0 || e != api.ErrForm {
			t.Errorf("text %d: %d acts, %d %v", i, len(l), at, e)
		}
	}
	for i, s := range []string{"type 0" + strings.Repeat(" k1", n) + "\n", "type 0 i" + strings.Repeat("61", n) + "\n"} {
		if l, at, e := Read(tree, s); len(l) != 0 || at != 0 || e != api.ErrSize {
			t.Errorf("too long %d: %d acts, %d %v", i, len(l), at, e)
		}
	}
}
