package lines

import (
	"math/big"
	"math/rand"
	"regexp"
	"strings"
	"testing"

	"wherry/api"
)

// drawnOp that may be.
func drawnOp(r *rand.Rand) api.Op {
	var o api.Op
	for range r.Intn(5) {
		ahead := 0
		if len(o) > 0 {
			ahead = o[len(o)-1].Kind
		}
		switch kind := 1 + r.Intn(3); {
		case kind == ahead || kind == api.Insert && ahead == api.Delete:
		case kind == api.Insert:
			o = append(o, insert([]string{"a", "é世", "𝄞bcd", "\x00\n", "k1 d2"}[r.Intn(5)]))
		default:
			o = append(o, api.Part{Kind: kind, N: 1 + r.Intn(12)})
		}
	}
	return o
}

// drawnAct that may be.
func drawnAct(r *rand.Rand) api.Act {
	node, to := r.Intn(len(tree)), r.Intn(len(tree))
	switch r.Intn(9) {
	case 0:
		return undoing(node)
	case 1:
		return selecting(node, r.Intn(api.MaxText+1), r.Intn(12))
	case 2:
		return delivering(node, to, r.Intn(12))
	case 3:
		return dropping(node, to, r.Intn(api.MaxPick+1))
	case 4:
		return copying(node, to, r.Intn(2))
	case 5:
		return ticking()
	case 6:
		return crashing(node, r.Intn(api.MaxTape+1))
	case 7:
		return starting(node)
	default:
		return typing(node, drawnOp(r)...)
	}
}

func drawnActs(r *rand.Rand) []api.Act {
	var l []api.Act
	for range r.Intn(8) {
		l = append(l, drawnAct(r))
	}
	return l
}

// Numbers, and a line of each form, as P7.2 and P7.3 tell them.
const numberForm = `(?:0|-?[1-9][0-9]*)`

var lineForm = regexp.MustCompile(strings.ReplaceAll(`^(?:type N(?: (?:[kd]N|i(?:[0-9a-f]{2})*))*|undo N|select N N N|(?:deliver|drop|copy) N N N|tick|crash N N|start N)\n$`, "N", numberForm))

var numberInside = regexp.MustCompile(`(?:^|[ kd])(` + numberForm + `)(?:$|[ \n])`)

// plainNumber: does it fit into 64 bits?
func plainNumber(s string) (int, bool) {
	n, ok := new(big.Int).SetString(s, 10)
	if !ok || !n.IsInt64() {
		return 0, false
	}
	return int(n.Int64()), true
}

// plainPart of a word in form.
func plainPart(word string) (api.Part, bool) {
	if word[0] == 'i' {
		b, _ := new(big.Int).SetString("01"+word[1:], 16) // the byte 1 ahead keeps the noughts behind it
		return insert(string(b.Bytes()[1:])), true
	}
	n, ok := plainNumber(word[1:])
	return api.Part{Kind: strings.Index(" k d", word[:1]), N: n}, ok
}

var plainKinds = map[string]int{
	"type": api.Type, "undo": api.Undo, "select": api.Select, "deliver": api.Deliver, "drop": api.Drop,
	"copy": api.Copy, "tick": api.Tick, "crash": api.Crash, "start": api.Start,
}

// plainLine, slowly: the act of a line, if it is in form.
func plainLine(line string) (api.Act, bool) {
	if !lineForm.MatchString(line) {
		return api.Act{}, false
	}
	l := strings.Fields(line)
	a := api.Act{Kind: plainKinds[l[0]]}
	var numbers [3]int
	for i, word := range l[1:] {
		n, ok := plainNumber(word)
		if a.Kind == api.Type && i > 0 {
			var p api.Part
			p, ok = plainPart(word)
			a.Op = append(a.Op, p)
		} else {
			numbers[i] = n
		}
		if !ok {
			return api.Act{}, false
		}
	}
	a.Node = numbers[0]
	switch a.Kind {
	case api.Select:
		a.Mark = api.Mark{Anchor: numbers[1], Head: numbers[2]}
	case api.Crash:
		a.Keep = numbers[1]
	default:
		a.To, a.Pick = numbers[1], numbers[2]
	}
	return a, true
}

// plainRead, slowly: line by line, each with its byte 10.
func plainRead(s string) ([]api.Act, int, api.Errno) {
	var l []api.Act
	for i, line := range strings.SplitAfter(s, "\n") {
		if line == "" {
			break
		}
		a, ok := plainLine(line)
		e := Check(tree, a)
		if i >= api.MaxActs {
			e = api.ErrSize
		} else if !ok {
			e = api.ErrForm
		}
		if e != api.OK {
			return nil, i, e
		}
		l = append(l, a)
	}
	return l, 0, api.OK
}

// spoiled: something changed, left out, or put in.
func spoiled(r *rand.Rand, s string) string {
	pieces := []string{"", " ", "\n", "0", "-", "1", "a", "k", "i", "d", "x", "é", "\xff", "9999999999", " k1", " i61", "tick\n", "undo 0\n", "+", "A"}
	i := r.Intn(len(s) + 1)
	k := min(len(s), i+r.Intn(3))
	return s[:i] + pieces[r.Intn(len(pieces))] + s[k:]
}

// otherNumber in the place of one of them: in form, or nearly.
func otherNumber(r *rand.Rand, s string) string {
	l := numberInside.FindAllStringSubmatchIndex(s, -1)
	if len(l) == 0 {
		return s
	}
	at := l[r.Intn(len(l))]
	n := []string{"-1", "0", "1", "3", "4", "4000", "4001", "1048576", "1048577", "8388608", "8388609", "9223372036854775807", "9223372036854775808", "-9223372036854775808", "-9223372036854775809", "-0", "007", "+1"}
	return s[:at[2]] + n[r.Intn(len(n))] + s[at[3]:]
}

// P7.3: there and back, whatever may be.
func TestThereAndBack(t *testing.T) {
	r := rand.New(rand.NewSource(7))
	for range 3000 {
		l := drawnActs(r)
		s, at, e := Show(tree, l)
		if at != 0 || e != api.OK || strings.Count(s, "\n") != len(l) {
			t.Fatalf("%v: %q %d %v", l, s, at, e)
		}
		if back, at, e := Read(tree, s); told(back) != told(l) || at != 0 || e != api.OK {
			t.Fatalf("%v: %q: %v %d %v", l, s, back, at, e)
		}
	}
}

// P7.3, held against the plain reading; and what is read is shown as it was.
func TestReadSpoiled(t *testing.T) {
	r := rand.New(rand.NewSource(77))
	answers := map[api.Errno]int{}
	for range 40000 {
		s, _, _ := Show(tree, drawnActs(r))
		for range r.Intn(3) {
			s = spoiled(r, s)
		}
		for range r.Intn(2) {
			s = otherNumber(r, s)
		}
		l, at, e := Read(tree, s)
		want, place, f := plainRead(s)
		if told(l) != told(want) || at != place || e != f {
			t.Fatalf("%q: %v %d %v, want %v %d %v", s, l, at, e, want, place, f)
		}
		if again, _, f := Show(tree, l); e == api.OK && (again != s || f != api.OK) {
			t.Fatalf("%q: %v is shown as %q %v", s, l, again, f)
		}
		answers[e]++
	}
	for _, e := range []api.Errno{api.OK, api.ErrForm, api.ErrRange, api.ErrSize} {
		if answers[e] < 20 {
			t.Errorf("%v came only %d times: %v", e, answers[e], answers)
		}
	}
}
