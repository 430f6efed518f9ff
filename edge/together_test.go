package edge

import (
	"fmt"
	"math"
	"math/rand"
	"testing"

	"wherry/api"
	"wherry/text"
)

// note from one side to the other one.
type note struct {
	op    api.Op
	heard int
}

// place: a side, its text, and the notes that are on the way to it.
type place struct {
	e     api.Edge
	text  string
	notes []note
}

// drawnOp on a text of n runes. The word goes in where no deletion is right ahead, since it would have to stand ahead of that.
func drawnOp(r *rand.Rand, n int, word string) api.Op {
	var o api.Op
	last := func() *api.Part {
		if len(o) == 0 {
			return &api.Part{}
		}
		return &o[len(o)-1]
	}
	for i := range n + 1 {
		if r.Intn(4) == 0 && last().Kind != api.Delete {
			o = append(o, insert(word))
		}
		if i == n {
			break
		}
		next := keep(1)
		if r.Intn(3) == 0 {
			next = remove(1)
		}
		if last().Kind == next.Kind {
			last().N++
		} else {
			o = append(o, next)
		}
	}
	return o
}

// edit at a place: the other one gets a note of it.
func (p *place) edit(t *testing.T, o api.Op, other *place) {
	t.Helper()
	s, c := text.Apply(p.text, o)
	e, d := Send(p.e, o)
	if c != api.OK || d != api.OK {
		t.Fatalf("%v %q %v: %v %v", p.e, p.text, o, c, d)
	}
	other.notes = append(other.notes, note{o, p.e.Heard})
	p.e, p.text = e, s
}

// hear the first note.
func (p *place) hear(t *testing.T, upper bool) {
	t.Helper()
	n := p.notes[0]
	e, o, c := Hear(p.e, n.op, n.heard, upper)
	if c != api.OK {
		t.Fatalf("%v %v %d: %v", p.e, n.op, n.heard, c)
	}
	if c := Check(e); c != api.OK {
		t.Fatalf("%v %v %d: %v may not be: %v", p.e, n.op, n.heard, e, c)
	}
	s, c := text.Apply(p.text, o)
	if c != api.OK {
		t.Fatalf("%q %v: %v", p.text, o, c)
	}
	p.e, p.text, p.notes = e, s, p.notes[1:]
}

// P2.2, P2.3: when all is heard both sides have one text, whatever the order in which they edit and hear.
func TestBothComeToOneText(t *testing.T) {
	r := rand.New(rand.NewSource(2))
	for round := range 3000 {
		up, low := &place{text: "aé世"}, &place{text: "aé世"}
		for range 1 + r.Intn(12) {
			switch r.Intn(4) {
			case 0:
				up.edit(t, drawnOp(r, len([]rune(up.text)), "U"), low)
			case 1:
				low.edit(t, drawnOp(r, len([]rune(low.text)), "lé"), up)
			case 2:
				if len(up.notes) > 0 {
					up.hear(t, true)
				}
			case 3:
				if len(low.notes) > 0 {
					low.hear(t, false)
				}
			}
		}
		for len(up.notes) > 0 {
			up.hear(t, true)
		}
		for len(low.notes) > 0 {
			low.hear(t, false)
		}
		if up.text != low.text || up.e.Sent != low.e.Heard || low.e.Sent != up.e.Heard {
			t.Fatalf("round %d: %q %v, %q %v", round, up.text, up.e, low.text, low.e)
		}
	}
}

// P2.3: where both insert, the upper side's text stands ahead, behind any number of edits.
func TestUpperStandsAhead(t *testing.T) {
	up, low := &place{}, &place{}
	for i := range 5 {
		up.edit(t, api.Op{insert("U")}, low)
		low.edit(t, api.Op{insert("l")}, up)
		if i == 4 {
			break
		}
		up.edit(t, api.Op{remove(1)}, low)
		low.edit(t, api.Op{remove(1)}, up)
	}
	for range 9 {
		up.hear(t, true)
		low.hear(t, false)
	}
	if up.text != "Ul" || low.text != "Ul" {
		t.Errorf("%q %q, want %q", up.text, low.text, "Ul")
	}
}

// roomy: the same list, with something in its spare room.
func roomy(o api.Op) api.Op {
	return append(append(api.Op{}, o...), keep(77), insert("spare"))[:len(o)]
}

// roomySide: the same side, with something in all spare room.
func roomySide(e api.Edge) api.Edge {
	var l []api.Op
	for _, o := range e.Pending {
		l = append(l, roomy(o))
	}
	e.Pending = append(l, api.Op{keep(78)}, api.Op{keep(79)})[:len(l)]
	return e
}

func scribble(o api.Op) {
	o = o[:cap(o)]
	for i := range o {
		o[i] = api.Part{Kind: -1, N: -1, Text: "scribble"}
	}
}

// scribbleSide over all that it has, and its spare room.
func scribbleSide(e api.Edge) {
	l := e.Pending[:cap(e.Pending)]
	for i := range l {
		scribble(l[i])
		l[i] = api.Op{keep(-1)}
	}
}

func whole(o api.Op) string { return fmt.Sprint(o[:cap(o)]) }

func wholeSide(e api.Edge) string {
	s := fmt.Sprint(e.Sent, e.Heard)
	for _, o := range e.Pending[:cap(e.Pending)] {
		s += whole(o)
	}
	return s
}

// sidesAndOps that fit, with none, one and more Pending.
func sidesAndOps() []struct {
	e api.Edge
	o api.Op
} {
	x, y := api.Op{insert("x")}, api.Op{keep(1), insert("y")}
	return []struct {
		e api.Edge
		o api.Op
	}{
		{api.Edge{}, x},
		{side(1, 0, api.Op{keep(2)}), api.Op{keep(1), insert("x"), remove(1)}},
		{side(3, 0, api.Op{remove(2)}, x, y), api.Op{insert("z"), keep(1), remove(1)}},
		{side(3, 0, api.Op{keep(2)}, api.Op{keep(2)}), api.Op{keep(2)}},
		{side(3, 0, nil, api.Op{}), nil},
		{side(3, 0, nil, x), x},
	}
}

// What is handed in is not changed, and what comes out shares nothing with it.
func TestNothingIsShared(t *testing.T) {
	for _, c := range sidesAndOps() {
		e, o := roomySide(c.e), roomy(c.o)
		wantE, wantO := wholeSide(e), whole(o)
		unchanged := func(what string) {
			t.Helper()
			if wholeSide(e) != wantE || whole(o) != wantO {
				t.Fatalf("%s: %s %s became %s %s", what, wantE, wantO, wholeSide(e), whole(o))
			}
		}
		Check(e)
		unchanged("Check")
		fits := o
		if n := len(e.Pending); n > 0 {
			_, to := text.Lengths(e.Pending[n-1])
			fits = roomy(api.Op{insert("w")})
			if to > 0 {
				fits = roomy(api.Op{insert("w"), keep(to)})
			}
		}
		wantFits := whole(fits)
		if next, c := Send(e, fits); c != api.OK {
			t.Fatalf("%v %v: %v", e, fits, c)
		} else {
			scribbleSide(next)
		}
		unchanged("Send")
		if whole(fits) != wantFits {
			t.Fatalf("Send: %s became %s", wantFits, whole(fits))
		}
		hearAll(t, e, o, unchanged)
	}
}

// hearAll that can be heard, and scribble over what is told.
func hearAll(t *testing.T, e api.Edge, o api.Op, unchanged func(string)) {
	for heard := known(e); heard <= e.Sent; heard++ {
		for _, upper := range []bool{false, true} {
			next, told, _ := Hear(e, o, heard, upper)
			want := wholeSide(next)
			scribble(told)
			if wholeSide(next) != want {
				t.Fatalf("%v %v %d: the answers of Hear share memory", e, o, heard)
			}
			scribbleSide(next)
			unchanged("Hear")
		}
	}
}

// No two operations of an answer share memory, even if those handed in do.
func TestAnswersShareNothingAmongThemselves(t *testing.T) {
	o := api.Op{keep(2)}
	e, c := Send(side(3, 0, o, o), o)
	if c != api.OK {
		t.Fatal(c)
	}
	scribble(e.Pending[1])
	if got := told(e.Pending[0], e.Pending[2], o); got != told(o, o, api.Op{keep(2)}) {
		t.Errorf("Send: %s", got)
	}
	e, p, c := Hear(side(3, 0, o, o, o), o, 0, true)
	if c != api.OK {
		t.Fatal(c)
	}
	scribble(e.Pending[1])
	if got := told(e.Pending[0], e.Pending[2], p, o); got != told(o, o, o, api.Op{keep(2)}) {
		t.Errorf("Hear: %s", got)
	}
}

// Hard inputs: every call ends, and none panics; with an error all else is zero.
func TestEverythingIsAnswered(t *testing.T) {
	numbers := []int{math.MinInt, -1, 0, 1, 2, api.MaxNumber, api.MaxNumber + 1, math.MaxInt}
	ops := []api.Op{nil, {}, {keep(1)}, {insert("x")}, {keep(math.MaxInt), remove(math.MaxInt)}, {keep(math.MinInt)}, {insert("\xff")}, {{}}, make(api.Op, api.MaxParts+1)}
	lists := [][]api.Op{nil, {}}
	for _, a := range ops {
		lists = append(lists, []api.Op{a}, []api.Op{nil, a}, []api.Op{a, {keep(1)}})
	}
	for _, sent := range numbers {
		for _, heard := range numbers {
			for _, l := range lists {
				e := api.Edge{Sent: sent, Heard: heard, Pending: l}
				for _, o := range ops {
					answered(t, e, o, numbers)
				}
			}
		}
	}
}

func answered(t *testing.T, e api.Edge, o api.Op, numbers []int) {
	state := Check(e)
	if next, c := Send(e, o); c != api.OK && told(next) != told(api.Edge{}) || state != api.OK && c != state || c == api.OK && Check(next) != api.OK {
		t.Fatalf("Send %v %v: %v %v", e, o, next, c)
	}
	for _, heard := range numbers {
		next, p, c := Hear(e, o, heard, heard > 0)
		if c != api.OK && told(next, p) != told(api.Edge{}, api.Op(nil)) || state != api.OK && c != state || c == api.OK && Check(next) != api.OK {
			t.Fatalf("Hear %v %v %d: %v %v %v", e, o, heard, next, p, c)
		}
	}
}
