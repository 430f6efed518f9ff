package node

import (
	"fmt"
	"math"
	"math/rand"
	"reflect"
	"strings"
	"testing"

	"wherry/api"
)

// span of memory that a list has, its spare room too.
type span struct {
	from, to uintptr
	name     string
}

// spans of all lists in a value, and of those in their spare room.
func spans(name string, v reflect.Value) []span {
	var l []span
	switch v.Kind() {
	case reflect.Struct:
		for i := range v.NumField() {
			l = append(l, spans(name+"."+v.Type().Field(i).Name, v.Field(i))...)
		}
	case reflect.Slice:
		if v.Cap() == 0 {
			break
		}
		l = append(l, span{v.Pointer(), v.Pointer() + uintptr(v.Cap())*v.Type().Elem().Size(), name})
		for i := range v.Cap() {
			l = append(l, spans(fmt.Sprint(name, i), v.Slice(0, v.Cap()).Index(i))...)
		}
	}
	return l
}

// whole: all that a value has, the spare room of its lists too.
func whole(v reflect.Value) string {
	switch v.Kind() {
	case reflect.Struct:
		s := ""
		for i := range v.NumField() {
			s += whole(v.Field(i)) + ","
		}
		return s
	case reflect.Slice:
		s := fmt.Sprint(v.Len(), "[")
		for i := range v.Cap() {
			s += whole(v.Slice(0, v.Cap()).Index(i)) + ";"
		}
		return s + "]"
	}
	return fmt.Sprint(v)
}

// roomy: the same value, with spare room in all lists.
func roomy[T any](x T) T {
	return roomyValue(reflect.ValueOf(x)).Interface().(T)
}

func roomyValue(v reflect.Value) reflect.Value {
	out := reflect.New(v.Type()).Elem()
	switch v.Kind() {
	case reflect.Struct:
		for i := range v.NumField() {
			out.Field(i).Set(roomyValue(v.Field(i)))
		}
	case reflect.Slice:
		out.Set(reflect.MakeSlice(v.Type(), v.Len(), v.Len()+3))
		for i := range v.Len() {
			out.Index(i).Set(roomyValue(v.Index(i)))
		}
	default:
		out.Set(v)
	}
	return out
}

// input of all calls.
type input struct {
	Tree   api.Tree
	Node   api.Node
	Op     api.Op
	Packet api.Packet
	From   int
}

// calls: what all answer.
func calls(x input) []api.Turn {
	var l []api.Turn
	add := func(got api.Turn, e api.Errno) { l = append(l, got) }
	CheckTree(x.Tree)
	Check(x.Tree, x.Node)
	add(Begin(x.Tree, x.Node.Me, 1, ""))
	add(Edit(x.Tree, x.Node, x.Op))
	add(Undo(x.Tree, x.Node))
	add(Select(x.Tree, x.Node, api.Mark{Anchor: 1}))
	add(Hear(x.Tree, x.Node, x.From, x.Packet))
	add(Tick(x.Tree, x.Node))
	return l
}

// inputs with lists in all that is answered.
func inputs() []input {
	o := api.Op{keep(1), insert("x"), remove(1), keep(1)}
	busy := but(middle(), func(n *api.Node) {
		n.Undo, n.Marks = times(api.MaxUndo, api.Op{keep(3)}), []api.Mark{{Anchor: 1, Head: 2}}
		n.Sides[2] = joined(4, 7)
		for i := range n.Sides {
			n.Sides[i].Edge = api.Edge{Sent: 9, Pending: times(3, api.Op{keep(3)})}
			for range 3 * i {
				n.Sides[i] = sent(n.Sides[i], api.Op{keep(3)})
			}
		}
		for range api.MaxWindow {
			n.Sides[0] = sent(n.Sides[0], api.Op{keep(3)})
		}
		n.Sides[0].Link.Queue = []api.Frame{editOf(4, api.Op{keep(3)}), editOf(5, api.Op{keep(3)}), wholeOf(9, "x")}
	})
	heard := func(n api.Node, from, ack int) input {
		return input{tree, n, o, packet(n.Sides[placeOf(n, from)].Link.Epoch, 1, ack, editOf(n.Sides[placeOf(n, from)].Edge.Sent-1, o)), from}
	}
	top := but(top(), func(n *api.Node) {
		n.Undo = times(2, api.Op{keep(3)})
		n.Sides[0], n.Sides[1] = sent(n.Sides[0], api.Op{keep(3)}), sent(n.Sides[1], api.Op{keep(3)})
	})
	return []input{
		heard(busy, 0, 0), heard(busy, 0, 1), heard(busy, 0, 8), heard(busy, 3, 0), heard(busy, 3, 3), heard(busy, 4, 5), heard(top, 1, 0), heard(top, 2, 1),
		{tree, busy, o, packet(5, 1, 1, joinOf(9, 9)), 0},
		{tree, busy, o, bare(0, 7), 0},
		{tree, busy, o, packet(99, 1, 0, joinOf(99, 5)), 3},
		{tree, busy, o, bare(99, 0), 3},
		{tree, waiting(), o, packet(5, 1, 0, wholeOf(5, "aé世")), 0},
	}
}

// What is handed in is not changed, its spare room neither; no two lists of an answer share memory, nor does one with what was handed in, or with another answer.
func TestSharesNothing(t *testing.T) {
	for i, x := range inputs() {
		x = roomy(x)
		was := whole(reflect.ValueOf(x))
		owner := spans("input", reflect.ValueOf(x))
		for round := range 2 {
			for k, got := range calls(x) {
				owner = append(owner, spans(fmt.Sprintf("round %d, call %d: ", round, k), reflect.ValueOf(got))...)
			}
		}
		for k, a := range owner {
			for _, b := range owner[:k] {
				if a.from < b.to && b.from < a.to {
					t.Errorf("input %d: %s shares with %s", i, a.name, b.name)
				}
			}
		}
		if now := whole(reflect.ValueOf(x)); now != was {
			t.Errorf("input %d: %s became %s", i, was, now)
		}
	}
}

// The inputs above are answered, so that there is something that could be shared.
func TestInputsAreAnswered(t *testing.T) {
	for i, x := range inputs() {
		if _, e := Hear(x.Tree, x.Node, x.From, x.Packet); e != api.OK {
			t.Errorf("input %d: %v", i, e)
		}
	}
}

// leaves of a value: all numbers, texts, truths and lists in it.
func leaves(v reflect.Value) []reflect.Value {
	var l []reflect.Value
	switch v.Kind() {
	case reflect.Struct:
		for i := range v.NumField() {
			l = append(l, leaves(v.Field(i))...)
		}
	case reflect.Slice:
		l = append(l, v)
		for i := range v.Len() {
			l = append(l, leaves(v.Index(i))...)
		}
	default:
		l = append(l, v)
	}
	return l
}

var hardNumbers = []int{math.MinInt, -1, 0, 1, 2, 3, 4, 5, 40, most - 1, most, most + 1, math.MaxInt}
var hardTexts = []string{"", "a", "é", "aé世", "aé世x", "\xff", strings.Repeat("é", api.MaxText), strings.Repeat("é", api.MaxText+1)}

// spoil one thing in a value.
func spoil(r *rand.Rand, x reflect.Value) {
	l := leaves(x)
	v := l[r.Intn(len(l))]
	switch v.Kind() {
	case reflect.Int:
		if n := int64(r.Intn(3) - 1); r.Intn(2) == 0 {
			v.SetInt(v.Int() + n)
		} else {
			v.SetInt(int64(hardNumbers[r.Intn(len(hardNumbers))]))
		}
	case reflect.Bool:
		v.SetBool(!v.Bool())
	case reflect.String:
		v.SetString(hardTexts[r.Intn(len(hardTexts))])
	case reflect.Slice:
		switch n := v.Len(); r.Intn(5) {
		case 0:
			v.SetZero()
		case 1:
			v.Set(v.Slice(0, n/2))
		case 2:
			v.Set(reflect.Append(v, reflect.Zero(v.Type().Elem())))
		default:
			if n > 0 {
				v.Set(reflect.Append(v, roomyValue(v.Index(r.Intn(n)))))
			}
		}
	}
}

// atTheEnd: has a side of a node come to the end of its numbers? Then a turn may leave it so that it may not be.
func atTheEnd(n api.Node) bool {
	for _, s := range n.Sides {
		if s.Edge.Sent >= most || s.Link.Next >= most-api.MaxWindow {
			return true
		}
	}
	return false
}

// Hard inputs: every call ends, and none panics; with an error all else is zero; what is told may be.
func TestEverythingIsAnswered(t *testing.T) {
	r := rand.New(rand.NewSource(666))
	good := inputs()
	for range 4000 {
		x := roomy(good[r.Intn(len(good))])
		for range 1 + r.Intn(3) {
			spoil(r, reflect.ValueOf(&x).Elem())
		}
		checked := Check(x.Tree, x.Node)
		for k, call := range []func() (api.Turn, api.Errno){
			func() (api.Turn, api.Errno) { return Edit(x.Tree, x.Node, x.Op) },
			func() (api.Turn, api.Errno) { return Undo(x.Tree, x.Node) },
			func() (api.Turn, api.Errno) {
				return Select(x.Tree, x.Node, api.Mark{Anchor: x.From, Head: x.Packet.Ack})
			},
			func() (api.Turn, api.Errno) { return Hear(x.Tree, x.Node, x.From, x.Packet) },
			func() (api.Turn, api.Errno) { return Tick(x.Tree, x.Node) },
		} {
			got, e := call()
			if checked != api.OK && e != checked || e != api.OK && told(got) != told(api.Turn{}) {
				t.Fatalf("call %d: %v: %v %v, and Check says %v", k, x, got, e, checked)
			}
			if e == api.OK && !atTheEnd(x.Node) && Check(x.Tree, got.Node) != api.OK {
				t.Fatalf("call %d: %v: %v may not be", k, x, got.Node)
			}
		}
		if got, e := Begin(x.Tree, x.From, x.Node.Epoch, x.Node.Text); e != api.OK && told(got) != told(api.Turn{}) || e == api.OK && Check(x.Tree, got.Node) != api.OK {
			t.Fatalf("Begin: %v: %v %v", x, got, e)
		}
	}
}
