package text

import (
	"fmt"
	"math"
	"strings"
	"testing"

	"wherry/api"
)

// words of the lengths 0 to 3, with runes of one to four bytes.
var words = []string{"", "a", "aé", "é世𝄞"}

func long(n int) string { return strings.Repeat("é", n) }

// P1.1
func TestCheckText(t *testing.T) {
	for i, c := range []struct {
		s    string
		want api.Errno
	}{
		{"", api.OK},
		{"a\x00é世𝄞\n", api.OK},
		{"\uFFFD", api.OK},
		{long(api.MaxText), api.OK},
		{strings.Repeat("𝄞", api.MaxText), api.OK},
		{long(api.MaxText + 1), api.ErrSize},
		{"\xff", api.ErrForm},
		{"a\xc3", api.ErrForm},
		{"\xed\xa0\x80", api.ErrForm},
		{"\xc0\x80", api.ErrForm},
		{long(api.MaxText+1) + "\xff", api.ErrForm},
	} {
		if e := CheckText(c.s); e != c.want {
			t.Errorf("case %d: %v, want %v", i, e, c.want)
		}
	}
}

// repeated parts.
func repeated(n int, l ...api.Part) api.Op {
	var o api.Op
	for len(o) < n {
		o = append(o, l...)
	}
	return o[:n]
}

// P1.2
func TestCheck(t *testing.T) {
	for i, c := range []struct {
		o    api.Op
		want api.Errno
	}{
		{nil, api.OK},
		{api.Op{}, api.OK},
		{api.Op{keep(1)}, api.OK},
		{api.Op{insert("x"), remove(1), keep(1), insert("é")}, api.OK},
		{api.Op{insert("x"), keep(1), remove(1), keep(1), remove(1)}, api.OK},
		{api.Op{keep(api.MaxText)}, api.OK},
		{api.Op{insert(long(api.MaxText)), remove(api.MaxText)}, api.OK},

		{repeated(api.MaxParts+1, api.Part{}), api.ErrSize},
		{repeated(api.MaxParts, api.Part{}), api.ErrKind},
		{repeated(api.MaxParts, insert("x"), keep(1)), api.ErrSize},

		{api.Op{{Kind: 0, N: 1}}, api.ErrKind},
		{api.Op{{Kind: 4, N: -1, Text: "\xff"}}, api.ErrKind},
		{api.Op{{Kind: -1, N: 1}}, api.ErrKind},
		{api.Op{{Kind: math.MinInt, N: math.MaxInt}}, api.ErrKind},

		{api.Op{keep(0)}, api.ErrRange},
		{api.Op{keep(-1)}, api.ErrRange},
		{api.Op{keep(api.MaxText + 1)}, api.ErrRange},
		{api.Op{remove(0)}, api.ErrRange},
		{api.Op{remove(api.MaxText + 1)}, api.ErrRange},
		{api.Op{remove(math.MinInt)}, api.ErrRange},
		{api.Op{{Kind: api.Keep, N: 0, Text: "x"}}, api.ErrRange},
		{api.Op{{Kind: api.Keep, N: 1, Text: "x"}}, api.ErrForm},
		{api.Op{{Kind: api.Delete, N: 1, Text: "x"}}, api.ErrForm},
		{api.Op{{Kind: api.Delete, N: 1, Text: long(api.MaxText + 1)}}, api.ErrForm},

		{api.Op{insert("\xff")}, api.ErrForm},
		{api.Op{insert(long(api.MaxText + 1))}, api.ErrSize},
		{api.Op{{Kind: api.Insert, N: 1, Text: long(api.MaxText + 1)}}, api.ErrSize},
		{api.Op{insert("")}, api.ErrForm},
		{api.Op{{Kind: api.Insert, N: 1, Text: "x"}}, api.ErrForm},
		{api.Op{{Kind: api.Insert, N: -1, Text: "x"}}, api.ErrForm},

		{api.Op{keep(1), keep(1)}, api.ErrForm},
		{api.Op{insert("x"), insert("x")}, api.ErrForm},
		{api.Op{remove(1), remove(1)}, api.ErrForm},
		{api.Op{remove(1), insert("x")}, api.ErrForm},
		{api.Op{insert("x"), remove(1), insert("x")}, api.ErrForm},
		{api.Op{keep(1), keep(0)}, api.ErrRange},
		{api.Op{remove(1), insert(long(api.MaxText + 1))}, api.ErrSize},
		{api.Op{keep(1), keep(1), {}}, api.ErrForm},
		{api.Op{keep(1), {}, keep(0)}, api.ErrKind},

		{api.Op{keep(api.MaxText), remove(1)}, api.ErrSize},
		{api.Op{keep(api.MaxText), insert("x")}, api.ErrSize},
		{api.Op{keep(api.MaxText - 1), insert("x"), remove(1)}, api.OK},
		{api.Op{keep(api.MaxText), remove(1), keep(0)}, api.ErrRange},
	} {
		if e := Check(c.o); e != c.want {
			t.Errorf("case %d: %v, want %v", i, e, c.want)
		}
	}
}

// P1.3
func TestLengths(t *testing.T) {
	for i, c := range []struct {
		o        api.Op
		from, to int
	}{
		{nil, 0, 0},
		{api.Op{keep(3)}, 3, 3},
		{api.Op{remove(3)}, 3, 0},
		{api.Op{insert("é世𝄞")}, 0, 3},
		{api.Op{keep(2), insert("é"), remove(4), keep(1)}, 7, 4},
		{api.Op{remove(5000), insert("a"), insert("b"), keep(5000), keep(1)}, 10001, 5003},
		{api.Op{{Kind: 9, N: 7, Text: "abc"}, keep(1)}, 1, 1},
		{api.Op{{Kind: api.Keep, N: 1, Text: "abc"}, {Kind: api.Insert, N: 7, Text: "abc"}}, 1, 4},
	} {
		if from, to := Lengths(c.o); from != c.from || to != c.to {
			t.Errorf("case %d: %d, %d, want %d, %d", i, from, to, c.from, c.to)
		}
	}
}

// P1.4: what the calls answer may be, and is told as no other operation of the same runes.
func TestOneForm(t *testing.T) {
	for i, c := range []struct{ a, b, want api.Op }{
		{api.Op{remove(1), keep(1)}, api.Op{insert("x"), keep(1)}, api.Op{insert("x"), remove(1), keep(1)}},
		{api.Op{keep(1), remove(1)}, api.Op{remove(1)}, api.Op{remove(2)}},
		{api.Op{keep(2)}, api.Op{keep(1), insert("x"), keep(1)}, api.Op{keep(1), insert("x"), keep(1)}},
		{api.Op{keep(1), insert("x"), keep(1)}, api.Op{keep(1), remove(1), keep(1)}, api.Op{keep(2)}},
		{api.Op{insert("x"), keep(1), insert("z")}, api.Op{keep(1), insert("y"), remove(1), keep(1)}, api.Op{insert("xyz"), remove(1)}},
		{api.Op{insert("x"), keep(1)}, api.Op{remove(1), keep(1)}, api.Op{keep(1)}},
		{api.Op{insert("x")}, api.Op{remove(1)}, nil},
	} {
		if o, e := Compose(c.a, c.b); e != api.OK || !same(o, c.want) {
			t.Errorf("case %d: %v %v, want %v", i, o, e, c.want)
		}
	}
	a, b := api.Op{remove(1), keep(1), insert("x")}, api.Op{keep(1), remove(1)}
	p, q, e := Transform(a, b)
	if e != api.OK || !same(p, api.Op{insert("x"), remove(1)}) || !same(q, api.Op{remove(1), keep(1)}) {
		t.Errorf("Transform: %v %v %v", p, q, e)
	}
}

// P1.5
func TestApply(t *testing.T) {
	for i, c := range []struct {
		s    string
		o    api.Op
		want string
		e    api.Errno
	}{
		{"", nil, "", api.OK},
		{"", api.Op{insert("é")}, "é", api.OK},
		{"é世𝄞", api.Op{keep(3)}, "é世𝄞", api.OK},
		{"é世𝄞", api.Op{remove(3)}, "", api.OK},
		{"é世𝄞", api.Op{keep(1), insert("xy"), remove(1), keep(1), insert("z")}, "éxy𝄞z", api.OK},
		{long(api.MaxText), api.Op{insert("x"), remove(1), keep(api.MaxText - 1)}, "x" + long(api.MaxText-1), api.OK},
		{"\xff", api.Op{{}}, "", api.ErrForm},
		{long(api.MaxText + 1), api.Op{{}}, "", api.ErrSize},
		{"", api.Op{{}}, "", api.ErrKind},
		{"a", api.Op{keep(0)}, "", api.ErrRange},
		{"a", nil, "", api.ErrMatch},
		{"", api.Op{keep(1)}, "", api.ErrMatch},
		{"é", api.Op{keep(2)}, "", api.ErrMatch},
		{"ab", api.Op{keep(1), insert("x")}, "", api.ErrMatch},
	} {
		if s, e := Apply(c.s, c.o); s != c.want || e != c.e {
			t.Errorf("case %d: %q %v, want %q %v", i, s, e, c.want, c.e)
		}
	}
	for n, s := range words {
		for _, o := range allOps(n, "xy") {
			want := textOf(planOf(o).cells(cellsOf(s)))
			if got, e := Apply(s, o); got != want || e != api.OK {
				t.Fatalf("%q %v: %q %v, want %q", s, o, got, e, want)
			}
		}
	}
}

// P1.6
func TestInvert(t *testing.T) {
	for i, c := range []struct {
		s    string
		o    api.Op
		want api.Op
		e    api.Errno
	}{
		{"", nil, nil, api.OK},
		{"é世𝄞", api.Op{keep(1), insert("xy"), remove(1), keep(1)}, api.Op{keep(1), insert("世"), remove(2), keep(1)}, api.OK},
		{"ab", api.Op{remove(2)}, api.Op{insert("ab")}, api.OK},
		{"", api.Op{insert("é世")}, api.Op{remove(2)}, api.OK},
		{"\xff", api.Op{{}}, nil, api.ErrForm},
		{long(api.MaxText + 1), nil, nil, api.ErrSize},
		{"a", api.Op{{}}, nil, api.ErrKind},
		{"a", api.Op{keep(2)}, nil, api.ErrMatch},
		{"a", nil, nil, api.ErrMatch},
	} {
		if o, e := Invert(c.s, c.o); !same(o, c.want) || e != c.e {
			t.Errorf("case %d: %v %v, want %v %v", i, o, e, c.want, c.e)
		}
	}
	for n, s := range words {
		for _, o := range allOps(n, "xy") {
			back, e := Invert(s, o)
			there, _ := Apply(s, o)
			here, f := Apply(there, back)
			if e != api.OK || f != api.OK || here != s {
				t.Fatalf("%q %v: %v %v; it brings back %q %v", s, o, back, e, here, f)
			}
			if again, _ := Invert(there, back); !same(again, o) {
				t.Fatalf("%q %v: inverted twice it is %v", s, o, again)
			}
		}
	}
}

// P1.7
func TestTransform(t *testing.T) {
	for i, c := range []struct{ a, b, p, q api.Op }{
		{nil, nil, nil, nil},
		{api.Op{insert("x")}, api.Op{insert("yz")}, api.Op{insert("x"), keep(2)}, api.Op{keep(1), insert("yz")}},
		{api.Op{remove(2)}, api.Op{remove(2)}, nil, nil},
		{api.Op{remove(2)}, api.Op{keep(2)}, api.Op{remove(2)}, nil},
		{api.Op{keep(2)}, api.Op{keep(1), remove(1)}, api.Op{keep(1)}, api.Op{keep(1), remove(1)}},
		{api.Op{remove(2)}, api.Op{keep(1), insert("x"), keep(1)}, api.Op{remove(1), keep(1), remove(1)}, api.Op{insert("x")}},
		{api.Op{keep(1), insert("y")}, api.Op{insert("x"), remove(1)}, api.Op{keep(1), insert("y")}, api.Op{insert("x"), remove(1), keep(1)}},
	} {
		if p, q, e := Transform(c.a, c.b); !same(p, c.p) || !same(q, c.q) || e != api.OK {
			t.Errorf("case %d: %v %v %v, want %v %v", i, p, q, e, c.p, c.q)
		}
	}
	for n, s := range words {
		for _, a := range allOps(n, "x") {
			for _, b := range allOps(n, "yé") {
				checkTransform(t, s, a, b)
			}
		}
	}
}

// checkTransform: is it as the plain reading tells, and do both ways lead to one text?
func checkTransform(t *testing.T, s string, a, b api.Op) {
	t.Helper()
	p, q, e := Transform(a, b)
	x, y := transformed(a, b)
	if e != api.OK || !same(p, x) || !same(q, y) {
		t.Fatalf("%v %v: %v %v %v, want %v %v", a, b, p, q, e, x, y)
	}
	left, _ := Apply(s, a)
	left, f := Apply(left, q)
	right, _ := Apply(s, b)
	right, g := Apply(right, p)
	if f != api.OK || g != api.OK || left != right {
		t.Fatalf("%v %v: %q %v, and %q %v", a, b, left, f, right, g)
	}
}

// P1.7
func TestTransformRefuses(t *testing.T) {
	for i, c := range []struct {
		a, b api.Op
		want api.Errno
	}{
		{api.Op{{}}, api.Op{keep(0)}, api.ErrKind},
		{api.Op{keep(0)}, api.Op{{}}, api.ErrRange},
		{api.Op{keep(1)}, api.Op{{}}, api.ErrKind},
		{api.Op{keep(1)}, api.Op{keep(2)}, api.ErrMatch},
		{api.Op{insert("x")}, api.Op{keep(1)}, api.ErrMatch},
		{api.Op{insert(long(api.MaxText))}, api.Op{insert("x"), remove(1)}, api.ErrMatch},
		{api.Op{insert(long(api.MaxText))}, api.Op{insert("x")}, api.ErrSize},
		{api.Op{insert("x")}, api.Op{insert(long(api.MaxText))}, api.ErrSize},
		{api.Op{insert(long(api.MaxText - 1))}, api.Op{insert("x")}, api.OK},
		{api.Op{insert("x"), remove(1), keep(api.MaxText - 1)}, api.Op{insert("y"), keep(api.MaxText - 1), remove(1)}, api.OK},
		{api.Op{insert("x"), remove(1), keep(api.MaxText - 1)}, api.Op{insert("y"), remove(1), keep(api.MaxText - 1)}, api.ErrSize},
	} {
		p, q, e := Transform(c.a, c.b)
		if e != c.want || e != api.OK && len(p)+len(q) > 0 {
			t.Errorf("case %d: %d and %d parts, %v, want %v", i, len(p), len(q), e, c.want)
		}
	}
}

// P1.8
func TestCompose(t *testing.T) {
	for i, c := range []struct {
		a, b, want api.Op
		e          api.Errno
	}{
		{nil, nil, nil, api.OK},
		{api.Op{insert("é世𝄞")}, api.Op{keep(1), remove(1), insert("x"), keep(1)}, nil, api.ErrForm},
		{api.Op{insert("é世𝄞")}, api.Op{keep(1), insert("x"), remove(1), keep(1)}, api.Op{insert("éx𝄞")}, api.OK},
		{api.Op{keep(1), insert("b"), keep(1)}, api.Op{insert("x"), keep(1), insert("y"), keep(1), insert("z"), keep(1)}, api.Op{insert("x"), keep(1), insert("ybz"), keep(1)}, api.OK},
		{api.Op{remove(2)}, api.Op{insert("x")}, api.Op{insert("x"), remove(2)}, api.OK},
		{api.Op{insert("x"), remove(1), keep(1)}, api.Op{keep(1), insert("y"), keep(1)}, api.Op{insert("xy"), remove(1), keep(1)}, api.OK},
		{api.Op{keep(3)}, api.Op{keep(1), remove(2)}, api.Op{keep(1), remove(2)}, api.OK},
		{api.Op{remove(api.MaxText)}, api.Op{insert(long(api.MaxText))}, api.Op{insert(long(api.MaxText)), remove(api.MaxText)}, api.OK},
		{api.Op{{}}, api.Op{keep(0)}, nil, api.ErrKind},
		{api.Op{keep(0)}, api.Op{{}}, nil, api.ErrRange},
		{api.Op{keep(1)}, api.Op{{}}, nil, api.ErrKind},
		{api.Op{keep(1)}, api.Op{keep(2)}, nil, api.ErrMatch},
		{api.Op{keep(1), insert("x")}, api.Op{keep(1)}, nil, api.ErrMatch},
		{api.Op{remove(1)}, api.Op{keep(1)}, nil, api.ErrMatch},
	} {
		if o, e := Compose(c.a, c.b); !same(o, c.want) || e != c.e {
			t.Errorf("case %d: %v %v, want %v %v", i, o, e, c.want, c.e)
		}
	}
	for n, s := range words {
		for _, a := range allOps(n, "xz") {
			_, m := Lengths(a)
			if m > 4 {
				continue
			}
			between := planOf(a).cells(cellsOf(s))
			for _, b := range allOps(m, "y") {
				want := opBetween(n, planOf(b).cells(between))
				if o, e := Compose(a, b); !same(o, want) || e != api.OK {
					t.Fatalf("%v %v: %v %v, want %v", a, b, o, e, want)
				}
			}
		}
	}
}

// P1.9
func TestMove(t *testing.T) {
	o := api.Op{insert("é"), keep(2), insert("xy"), remove(2), keep(1), insert("z")}
	for at, want := range [][2]int{{0, 1}, {2, 2}, {3, 5}, {5, 5}, {5, 5}, {6, 7}} {
		for i, push := range []bool{false, true} {
			if got, e := Move(at, o, push); got != want[i] || e != api.OK {
				t.Errorf("%d, %v: %d %v, want %d", at, push, got, e, want[i])
			}
		}
	}
	for i, c := range []struct {
		at   int
		o    api.Op
		want int
		e    api.Errno
	}{
		{0, nil, 0, api.OK},
		{api.MaxText, api.Op{keep(api.MaxText)}, api.MaxText, api.OK},
		{-1, api.Op{{}}, 0, api.ErrKind},
		{-1, api.Op{keep(1)}, 0, api.ErrRange},
		{2, api.Op{keep(1), insert("x")}, 0, api.ErrRange},
		{1, nil, 0, api.ErrRange},
		{math.MinInt, api.Op{keep(1)}, 0, api.ErrRange},
		{math.MaxInt, api.Op{keep(1)}, 0, api.ErrRange},
	} {
		if got, e := Move(c.at, c.o, true); got != c.want || e != c.e {
			t.Errorf("case %d: %d %v, want %d %v", i, got, e, c.want, c.e)
		}
	}
}

// P1.9, held against the runes one by one.
func TestMoveRuneByRune(t *testing.T) {
	for _, o := range allOps(3, "xy") {
		p := planOf(o)
		for at := range 4 {
			want := 0
			for i := range at {
				want += len([]rune(p.inserted[i]))
				if !p.deleted[i] {
					want++
				}
			}
			still, _ := Move(at, o, false)
			pushed, _ := Move(at, o, true)
			if still != want || pushed != want+len([]rune(p.inserted[at])) {
				t.Fatalf("%v, %d: %d, and pushed %d, want %d", o, at, still, pushed, want)
			}
		}
	}
}

// P1.10
func TestWhole(t *testing.T) {
	for i, c := range []struct {
		from, to string
		want     api.Op
		e        api.Errno
	}{
		{"", "", nil, api.OK},
		{"", "é", api.Op{insert("é")}, api.OK},
		{"é世", "", api.Op{remove(2)}, api.OK},
		{"ab", "ab", api.Op{insert("ab"), remove(2)}, api.OK},
		{long(api.MaxText), long(api.MaxText), api.Op{insert(long(api.MaxText)), remove(api.MaxText)}, api.OK},
		{"\xff", long(api.MaxText + 1), nil, api.ErrForm},
		{long(api.MaxText + 1), "\xff", nil, api.ErrSize},
		{"a", "\xff", nil, api.ErrForm},
		{"a", long(api.MaxText + 1), nil, api.ErrSize},
	} {
		if o, e := Whole(c.from, c.to); !same(o, c.want) || e != c.e {
			t.Errorf("case %d: %v %v, want %v %v", i, o, e, c.want, c.e)
		}
	}
}

// hard inputs, some of which may not be.
func hardOps() []api.Op {
	l := []api.Op{nil, {}, repeated(api.MaxParts+1, insert("x"), keep(1)), repeated(6000, insert("x"), remove(1), keep(1))}
	for _, kind := range []int{math.MinInt, -1, 0, api.Keep, api.Insert, api.Delete, 4, math.MaxInt} {
		for _, n := range []int{math.MinInt, -1, 0, 1, 2, api.MaxText, api.MaxText + 1, math.MaxInt} {
			for _, s := range []string{"", "a", "é世", "\xff", long(api.MaxText)} {
				p := api.Part{Kind: kind, N: n, Text: s}
				l = append(l, api.Op{p}, api.Op{p, p}, api.Op{p, keep(1)})
			}
		}
	}
	return l
}

// No call panics or stays; what is answered may be; with an error there is nothing else.
func TestEverythingIsAnswered(t *testing.T) {
	good := func(o api.Op, e api.Errno) bool {
		return e == api.OK && Check(o) == api.OK || e != api.OK && len(o) == 0
	}
	l := hardOps()
	for i, o := range l {
		Lengths(o)
		for _, s := range []string{"", "a", "é世", "\xff", long(api.MaxText), long(api.MaxText + 1)} {
			if u, e := Apply(s, o); e != api.OK && u != "" || CheckText(u) != api.OK {
				t.Errorf("op %d: Apply: %q %v", i, u, e)
			}
			if p, e := Invert(s, o); !good(p, e) {
				t.Errorf("op %d: Invert: %v %v", i, p, e)
			}
		}
		for _, at := range []int{math.MinInt, -1, 0, 1, math.MaxInt} {
			if n, e := Move(at, o, true); e != api.OK && n != 0 {
				t.Errorf("op %d: Move: %d %v", i, n, e)
			}
		}
		for _, b := range []api.Op{o, l[i/2], nil, {keep(1)}, {keep(2)}} {
			if p, e := Compose(o, b); !good(p, e) {
				t.Errorf("op %d: Compose: %v %v", i, p, e)
			}
			if p, q, e := Transform(o, b); !good(p, e) || !good(q, e) {
				t.Errorf("op %d: Transform: %v %v %v", i, p, q, e)
			}
		}
	}
}

// roomy: the same operation, with spare room behind it that nobody may touch.
func roomy(o api.Op) api.Op {
	l := append(append(api.Op{}, o...), insert("spare"), keep(77))
	return l[:len(o)]
}

func scribble(o api.Op) {
	o = o[:cap(o)]
	for i := range o {
		o[i] = api.Part{Kind: -9, N: -9, Text: "scribbled"}
	}
}

func whole(o api.Op) string { return fmt.Sprint(o[:cap(o)]) }

// Lists that are handed in stay as they are, and answers share nothing with them or with each other.
func TestNothingIsShared(t *testing.T) {
	for _, a := range allOps(2, "x") {
		for _, b := range append(allOps(2, "y"), api.Op{keep(2)}) {
			a, b := roomy(a), roomy(b)
			wantA, wantB := whole(a), whole(b)
			p, q, _ := Transform(a, b)
			wantQ := whole(q)
			scribble(p)
			if whole(q) != wantQ {
				t.Fatalf("%v %v: the answers of Transform share memory", a, b)
			}
			scribble(q)
			_, q, _ = Transform(a, b)
			o, _ := Compose(a, q)
			scribble(o)
			o, _ = Invert("ab", a)
			scribble(o)
			Apply("ab", a)
			Move(1, a, true)
			if whole(a) != wantA || whole(b) != wantB {
				t.Fatalf("%s %s became %s %s", wantA, wantB, whole(a), whole(b))
			}
		}
	}
}
