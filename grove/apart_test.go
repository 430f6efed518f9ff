package grove

import (
	"fmt"
	"reflect"
	"sort"
	"testing"

	"wherry/api"
)

// span of memory that a list has, its spare room too.
type span struct {
	from, to uintptr
	name     string
}

// spans of all lists in a value, and of those in their spare room.
func spans(name string, v reflect.Value) []span {
	var l []span
	switch v.Kind() {
	case reflect.Struct:
		for i := range v.NumField() {
			l = append(l, spans(name+"."+v.Type().Field(i).Name, v.Field(i))...)
		}
	case reflect.Slice:
		if v.Cap() == 0 {
			break
		}
		l = append(l, span{v.Pointer(), v.Pointer() + uintptr(v.Cap())*v.Type().Elem().Size(), name})
		if v.Type().Elem().Kind() == reflect.Uint8 {
			break
		}
		for i := range v.Cap() {
			l = append(l, spans(fmt.Sprint(name, i), v.Slice(0, v.Cap()).Index(i))...)
		}
	}
	return l
}

// whole: all that a value has, the spare room of its lists too.
func whole(v reflect.Value) string {
	switch v.Kind() {
	case reflect.Struct:
		s := ""
		for i := range v.NumField() {
			s += whole(v.Field(i)) + ","
		}
		return s
	case reflect.Slice:
		s := fmt.Sprint(v.Len(), "[")
		for i := range v.Cap() {
			s += whole(v.Slice(0, v.Cap()).Index(i)) + ";"
		}
		return s + "]"
	}
	return fmt.Sprint(v)
}

// input of the call.
type input struct {
	Tree api.Tree
	Acts []api.Act
}

// roomy: the same input, with something in the spare room of all lists.
func roomy(x input) input {
	out := input{Tree: append(append(api.Tree{}, x.Tree...), 77, 78)[:len(x.Tree)]}
	for _, a := range append(append([]api.Act{}, x.Acts...), typing(7, keep(7)), api.Act{Kind: -1}) {
		a.Op = append(append(api.Op{}, a.Op...), keep(77), insert("spare"))[:len(a.Op)]
		out.Acts = append(out.Acts, a)
	}
	out.Acts = out.Acts[:len(x.Acts)]
	return out
}

// inputs: scripts whose outcomes have something in all lists, and scripts that are refused.
func inputs() []input {
	o := api.Op{insert("x"), keep(1)}
	busy := script(joining(), typing(0, insert("a")), typing(1, insert("é")), selecting(0, 1, 1), selecting(1, 0, 1))
	for range 6 {
		busy = script(busy, typing(0, insert("b"), remove(1)), typing(1, o...), undoing(1), typing(1, o...), undoing(1), ticking())
	}
	copies := script(copying(0, 1, 0), copying(0, 1, 3), copying(1, 0, 5), copying(1, 0, 5), dropping(0, 1, 1), down(), up(), up(), copying(1, 0, 0), delivering(0, 1, 9))
	return []input{
		{two, busy},
		{two, script(busy, copies)},
		{two, script(busy, copies, down(), up(), down(), crashing(1, 0), up(), copying(0, 1, 2))},
		{two, script(busy, copies, crashing(0, 0), starting(0), copies, typing(0, remove(1)))},
		{api.Tree{-1, 0, 0, 1}, script(copying(1, 0, 0), copying(3, 1, 0), ticking(), ticking(), typing(0, insert("ab")), dropping(1, 0, 0), delivering(1, 0, 2))},
		{two, script(three(), dropping(0, 1, 0))},
		{two, script(busy, api.Act{Kind: api.Tick, Op: o})},
		{api.Tree{-1, 1}, busy},
		{api.Tree{-1}, nil},
	}
}

// What is handed in is not changed, its spare room neither; no two lists of an answer share memory, nor does one with what was handed in, or with another answer.
func TestSharesNothing(t *testing.T) {
	for i, x := range inputs() {
		x = roomy(x)
		was := whole(reflect.ValueOf(x))
		l := spans("input", reflect.ValueOf(x))
		for round := range 2 {
			o, _, _ := Run(x.Tree, x.Acts)
			l = append(l, spans(fmt.Sprint("outcome ", round), reflect.ValueOf(o))...)
		}
		sort.Slice(l, func(a, b int) bool { return l[a].from < l[b].from })
		for k := 1; k < len(l); k++ {
			if l[k].from < l[k-1].to {
				t.Errorf("input %d: %s shares with %s", i, l[k].name, l[k-1].name)
			}
		}
		if now := whole(reflect.ValueOf(x)); now != was {
			t.Errorf("input %d: %s became %s", i, was, now)
		}
	}
}

// The same input is answered in the same way, whatever came between.
func TestNothingIsKept(t *testing.T) {
	var first []string
	for range 2 {
		for i, x := range inputs() {
			o, at, e := Run(x.Tree, x.Acts)
			if first = append(first, told(o, at, e)); len(first) > len(inputs()) {
				expect(t, told("input", i), first[len(first)-1], first[i])
			}
		}
	}
}

// The inputs above have copies of edits on the way, so that there is something that could be shared.
func TestInputsHaveCopies(t *testing.T) {
	for i, x := range inputs()[1:4] {
		copies := 0
		o := run(t, x.Tree, x.Acts)
		for _, l := range o.Flying {
			for k, p := range l {
				for _, q := range l[:k] {
					if len(p.Frame.Op) > 0 && told(p) == told(q) {
						copies++
					}
				}
			}
		}
		if copies == 0 {
			t.Errorf("input %d: %v", i+1, o.Flying)
		}
	}
}
