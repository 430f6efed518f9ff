package grove

import (
	"slices"
	"strings"
	"testing"

	"wherry/api"
)

// P8.2: what the root does and hears is written, in its order, and synced; what others do is not.
func TestWritten(t *testing.T) {
	began := []byte{0, 0, 1, 1}
	a := []byte{0, 0, 5, 0, 1, 2, 1, 'a'}
	b := []byte{0, 0, 7, 0, 2, 1, 1, 2, 1, 'b'}
	back := []byte{0, 0, 6, 0, 2, 3, 1, 1, 1}
	l := joining()
	for i, c := range []struct {
		l    []api.Act
		want []byte
	}{
		{l, began},
		{script(l, typing(1, insert("a"))), began},
		{script(l, typing(1, insert("a")), up()), slices.Concat(began, a)},
		{script(l, typing(0, insert("a"))), slices.Concat(began, a)},
		{script(l, typing(0, insert("a")), selecting(0, 1, 1), ticking()), slices.Concat(began, a)},
		{script(l, typing(0, insert("a")), typing(1, insert("b")), up()), slices.Concat(began, a, b)},
		{script(l, typing(0, insert("a")), typing(1, insert("b")), up(), undoing(0)), slices.Concat(began, a, b, back)},
		{script(l, typing(0, insert("a")), typing(0, keep(2)), crashing(1, 0), starting(1)), slices.Concat(began, a)},
	} {
		expect(t, told("case", i), run(t, two, c.l).Tape, api.Tape{Data: c.want, Synced: len(c.want)})
	}
}

// P8.2: a record for which there is no room is left out, the ones behind it are not; with some records all is synced, with none nothing.
func TestNoRoomOnTheTape(t *testing.T) {
	g := plant(two)
	g.out.Tape = api.Tape{Data: make([]byte, api.MaxTape-8), Synced: 1}
	g.settle(root, api.Turn{Node: g.out.Nodes[root]})
	if len(g.out.Tape.Data) != api.MaxTape-8 || g.out.Tape.Synced != 1 {
		t.Error("without records:", len(g.out.Tape.Data), g.out.Tape.Synced)
	}
	g.settle(root, api.Turn{Node: g.out.Nodes[root], Records: []api.Record{{Op: api.Op{insert("ab")}}, {Epoch: 7}, {Epoch: 300}, {Epoch: 9}}})
	end := g.out.Tape.Data[api.MaxTape-8:]
	if told(end) != told([]byte{0, 0, 1, 7, 0, 0, 1, 9}) || g.out.Tape.Synced != api.MaxTape {
		t.Error(end, g.out.Tape.Synced)
	}
}

// P8.2: what is posted goes behind what is on the way there, as long as there is room; each list for itself.
func TestNoRoomOnTheWay(t *testing.T) {
	ahead := script(joining(), typing(0, insert("a")), typing(0, keep(1), insert("b")))
	o := run(t, two, ahead, times(13, ticking()))
	expect(t, "the last ones that fit", numbers(o.Flying[1]), slices.Repeat([]int{2, 3}, 14))
	expect(t, "the other way", len(o.Flying[2]), 13)
	o = run(t, two, ahead, typing(0, keep(2), insert("c")), times(9, ticking()))
	expect(t, "the first one that does not fit", numbers(o.Flying[1]), slices.Repeat([]int{2, 3, 4}, 10))
	o = run(t, two, ahead, times(2, dropping(0, 1, 0)), times(16, ticking()))
	expect(t, "one that fits, and one that does not", numbers(o.Flying[1]), slices.Repeat([]int{2, 3}, 15))
	o = run(t, two, ahead, dropping(0, 1, 0), times(40, ticking()))
	expect(t, "half of a turn", numbers(o.Flying[1]), append([]int{3}, append(slices.Repeat([]int{2, 3}, 14), 2)...))
	expect(t, "full both ways", len(o.Flying[2]), api.MaxFlying)
	expect(t, "nothing else is lost", texts(o), []string{"ab", ""})
}

// P8.3: a root that is born again has the text of its tape, and nothing else; its births are written.
func TestBornAgain(t *testing.T) {
	ahead := script(joining(), typing(0, insert("aé")), selecting(0, 1, 2), typing(1, insert("世")), up(), undoing(0), typing(0, keep(1), insert("x")))
	was := run(t, two, ahead)
	for _, kept := range []int{0, 1, 5, api.MaxTape} {
		o := run(t, two, ahead, crashing(0, kept), starting(0))
		expect(t, "the root", o.Nodes[0], api.Node{Epoch: 2 * 4096, Ready: true, Text: "世x", Sides: []api.Side{waits(1)}})
		want := slices.Concat(was.Tape.Data, []byte{0, 0, 1, 2})
		expect(t, "its tape", o.Tape, api.Tape{Data: want, Synced: len(want)})
		expect(t, "up", o.Up, []bool{true, true})
		expect(t, "the child", o.Nodes[1], was.Nodes[1])
		expect(t, "on the way", o.Flying, was.Flying)
		o = run(t, two, ahead, crashing(0, kept), starting(0), crashing(0, kept), starting(0), typing(0, keep(2), insert("y")), crashing(0, kept), starting(0))
		expect(t, "the third time", told(o.Nodes[0].Text, o.Nodes[0].Epoch), told("世xy", 4*4096))
	}
}

// P8.3: what is torn off is cut away, ahead of the record of the birth.
func TestBornBehindATornTape(t *testing.T) {
	whole := []byte{0, 0, 1, 1, 0, 0, 5, 0, 1, 2, 1, 'a'}
	want := slices.Concat(whole, []byte{0, 0, 1, 2})
	for i, torn := range [][]byte{{}, {0}, {0, 0, 9}, {0, 0, 9, 0, 1, 1}, {0, 0, 0}, {0, 0, 1, 128, 0, 0, 1, 5}} {
		for synced := range len(whole) + len(torn) + 1 {
			g := plant(two)
			g.crash(root, 0)
			g.out.Tape = api.Tape{Data: slices.Concat(whole, torn), Synced: synced}
			expect(t, told("code of case", i), g.start(root), api.OK)
			expect(t, told("tape of case", i), g.out.Tape, api.Tape{Data: want, Synced: len(want)})
			expect(t, told("text of case", i), g.out.Nodes[root].Text, "a")
		}
	}
}

// P8.7: when the root crashes, of what was not synced so much stays as Keep says.
func TestCrashOfATape(t *testing.T) {
	began := []byte{0, 0, 1, 1}
	for _, c := range []struct{ kept, left int }{{0, 4}, {1, 5}, {7, 11}, {8, 12}, {9, 12}, {api.MaxTape, 12}} {
		g := plant(two)
		g.out.Tape = api.Tape{Data: slices.Concat(began, []byte{0, 0, 5, 0, 1, 2, 1, 'a'}), Synced: 4}
		expect(t, "code", g.crash(root, c.kept), api.OK)
		expect(t, told(c), told(len(g.out.Tape.Data), g.out.Tape.Synced), told(c.left, c.left))
		g.out.Tape.Synced = 4
		expect(t, "when it is down", g.crash(root, 0), api.ErrDown)
		expect(t, told(c, "still"), len(g.out.Tape.Data), c.left)
	}
}

// A long text is written, and comes back.
func TestLongText(t *testing.T) {
	s := strings.Repeat("𝄞", api.MaxEdit)
	o := run(t, two, joining(), typing(0, insert(s)), crashing(0, 0), starting(0))
	if o.Nodes[0].Text != s || last(o) != api.OK {
		t.Error(o.Nodes[0].Text, last(o))
	}
}
