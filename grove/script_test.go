package grove

import (
	"fmt"
	"slices"
	"testing"

	"wherry/api"
)

func keep(n int) api.Part      { return api.Part{Kind: api.Keep, N: n} }
func remove(n int) api.Part    { return api.Part{Kind: api.Delete, N: n} }
func insert(s string) api.Part { return api.Part{Kind: api.Insert, Text: s} }

func typing(node int, l ...api.Part) api.Act {
	return api.Act{Kind: api.Type, Node: node, Op: l}
}
func undoing(node int) api.Act { return api.Act{Kind: api.Undo, Node: node} }
func selecting(node, anchor, head int) api.Act {
	return api.Act{Kind: api.Select, Node: node, Mark: api.Mark{Anchor: anchor, Head: head}}
}
func delivering(node, to, pick int) api.Act {
	return api.Act{Kind: api.Deliver, Node: node, To: to, Pick: pick}
}
func dropping(node, to, pick int) api.Act {
	return api.Act{Kind: api.Drop, Node: node, To: to, Pick: pick}
}
func copying(node, to, pick int) api.Act {
	return api.Act{Kind: api.Copy, Node: node, To: to, Pick: pick}
}
func ticking() api.Act { return api.Act{Kind: api.Tick} }
func crashing(node, kept int) api.Act {
	return api.Act{Kind: api.Crash, Node: node, Keep: kept}
}
func starting(node int) api.Act { return api.Act{Kind: api.Start, Node: node} }

// two nodes, a root and its child.
var two = api.Tree{-1, 0}

// up: what the child posted first of all that is on the way is delivered; down: what the root posted.
func up() api.Act   { return delivering(1, 0, 0) }
func down() api.Act { return delivering(0, 1, 0) }

// script of pieces: acts, and lists of them.
func script(pieces ...any) []api.Act {
	var l []api.Act
	for _, p := range pieces {
		switch p := p.(type) {
		case api.Act:
			l = append(l, p)
		case []api.Act:
			l = append(l, p...)
		}
	}
	return l
}

// times an act.
func times(n int, a api.Act) []api.Act { return slices.Repeat([]api.Act{a}, n) }

// joining of the child of two: then it is ready, and nothing is on the way.
func joining() []api.Act { return script(up(), down(), up(), down(), down(), up()) }

// told: a list without elements may be nil or not.
func told(l ...any) string { return fmt.Sprintf("%v", l) }

// run a script that may be, and is answered with a code for each act.
func run(t *testing.T, tree api.Tree, pieces ...any) api.Outcome {
	t.Helper()
	l := script(pieces...)
	o, at, e := Run(tree, l)
	n := len(tree)
	if at != 0 || e != api.OK || len(o.Nodes) != n || len(o.Up) != n || len(o.Flying) != n*n || len(o.Codes) != len(l) {
		t.Fatalf("%v: %d %v: %v", l, at, e, o)
	}
	return o
}

// last code of a script.
func last(o api.Outcome) api.Errno { return o.Codes[len(o.Codes)-1] }

// numbers of packets; 0: of a bare one.
func numbers(l []api.Packet) []int {
	var out []int
	for _, p := range l {
		out = append(out, p.Number)
	}
	return out
}

// texts of all nodes.
func texts(o api.Outcome) []string {
	var l []string
	for _, n := range o.Nodes {
		l = append(l, n.Text)
	}
	return l
}

// withoutCodes: all else that an outcome tells.
func withoutCodes(o api.Outcome) string {
	o.Codes = nil
	return told(o)
}

// expect some text.
func expect(t *testing.T, what string, got, want any) {
	t.Helper()
	if told(got) != told(want) {
		t.Errorf("%s: %v, want %v", what, got, want)
	}
}
