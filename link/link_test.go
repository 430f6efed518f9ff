package link

import (
	"fmt"
	"math"
	"slices"
	"strings"
	"testing"

	"wherry/api"
)

const (
	most   = api.MaxNumber
	window = api.MaxWindow
)

func keep(n int) api.Part      { return api.Part{Kind: api.Keep, N: n} }
func insert(s string) api.Part { return api.Part{Kind: api.Insert, Text: s} }

func edit(heard int, l ...api.Part) api.Frame {
	return api.Frame{Kind: api.Edit, Heard: heard, Op: l}
}
func join(epoch int) api.Frame { return api.Frame{Kind: api.Join, Epoch: epoch} }
func whole(epoch int, s string) api.Frame {
	return api.Frame{Kind: api.Whole, Epoch: epoch, Text: s}
}

// joins: so many frames, from this one on; each of them is another one.
func joins(from, n int) []api.Frame {
	var l []api.Frame
	for i := range n {
		l = append(l, join(from+i))
	}
	return l
}

// at: one side of the session 3.
func at(next, heard int, sent, queue []api.Frame) api.Link {
	return api.Link{Epoch: 3, Next: next, Heard: heard, Sent: sent, Queue: queue}
}

func with(number, ack int, f api.Frame) api.Packet {
	return api.Packet{Epoch: 3, Number: number, Ack: ack, Frame: f}
}
func without(ack int) api.Packet { return api.Packet{Epoch: 3, Bare: true, Ack: ack} }

// told: a list without elements may be nil or not.
func told(l ...any) string { return strings.ReplaceAll(fmt.Sprintf("%v", l), "<nil>", "[]") }

// Frames that may not be, one for each refusal of P3.1.
var (
	wrongKind  = api.Frame{Kind: 4, Epoch: 1}
	wrongRange = api.Frame{Kind: api.Join, Epoch: 1, Heard: most + 1}
	wrongSize  = api.Frame{Kind: api.Whole, Epoch: 1, Text: strings.Repeat("é", api.MaxText+1)}
	wrongForm  = api.Frame{Kind: api.Edit, Epoch: 1}
	wrongOp    = api.Frame{Kind: api.Edit, Op: api.Op{keep(1), keep(1)}}
)

var wrongFrames = []api.Frame{{}, wrongKind, wrongRange, wrongSize, wrongForm, wrongOp}

// sides that may be.
var sides = []api.Link{
	{Next: 1},
	{Next: most},
	{Next: 1, Sent: []api.Frame{}, Queue: []api.Frame{}},
	{Epoch: 1, Next: 1},
	{Epoch: most, Next: most, Heard: most},
	at(1, most, nil, nil),
	at(2, 0, joins(1, 1), nil),
	at(window, 0, joins(1, window-1), nil),
	at(window+1, 0, joins(1, window), nil),
	at(window+1, 7, joins(1, window), joins(20, 1)),
	at(most, 7, joins(1, window), joins(20, 100)),
	at(most, 7, joins(1, 1), nil),
	at(100, 7, []api.Frame{edit(0), edit(most, insert("é"), keep(3)), whole(9, "世"), join(most)}, nil),
}

// wrongSides may not be.
var wrongSides = []api.Link{
	{},
	{Epoch: -1, Next: 1},
	{Epoch: most + 1, Next: 1},
	{Epoch: math.MinInt, Next: 1},
	{Epoch: math.MaxInt, Next: 1},
	at(0, 0, nil, nil),
	at(-1, 0, nil, nil),
	at(most+1, 0, nil, nil),
	at(math.MinInt, 0, nil, nil),
	at(math.MaxInt, 0, nil, nil),
	at(1, -1, nil, nil),
	at(1, most+1, nil, nil),
	at(1, math.MinInt, nil, nil),
	at(1, math.MaxInt, nil, nil),
	at(1, 0, joins(1, 1), nil),
	at(window, 0, joins(1, window), nil),
	at(window-1, 0, joins(1, window-1), nil),
	at(100, 0, joins(1, window+1), nil),
	at(100, 0, joins(1, 2*window), joins(1, 1)),
	at(100, 0, nil, joins(1, 1)),
	at(100, 0, joins(1, window-1), joins(1, 1)),
	at(most, 0, joins(1, window-1), joins(1, 1)),
	{Next: 9, Sent: joins(1, 1)},
	{Next: 9, Sent: joins(1, window)},
	{Next: 9, Sent: joins(1, window), Queue: joins(1, 1)},
	{Next: 9, Queue: joins(1, 1)},
	{Next: 9, Heard: 1},
	{Next: 9, Heard: most},
}

// wrongAt: sides of which one frame may not be.
func wrongAt() []api.Link {
	var l []api.Link
	for _, f := range wrongFrames {
		l = append(l, at(100, 0, []api.Frame{f}, nil), at(100, 0, []api.Frame{join(1), f}, nil), at(100, 0, []api.Frame{f, join(1)}, nil))
		for i := range window {
			sent, queue := joins(1, window), joins(9, window)
			sent[i], queue[i] = f, f
			l = append(l, at(100, 0, sent, nil), at(100, 0, joins(1, window), queue))
		}
	}
	return l
}

// P5.1
func TestCheck(t *testing.T) {
	for i, l := range sides {
		if e := Check(l); e != api.OK {
			t.Errorf("side %d: %v: %v", i, l, e)
		}
	}
	for i, l := range append(wrongAt(), wrongSides...) {
		if e := Check(l); e != api.ErrState {
			t.Errorf("wrong side %d: %v: %v", i, l, e)
		}
	}
}

// P5.2
func TestOpen(t *testing.T) {
	for _, epoch := range []int{1, 2, 3, 4096, most - 1, most} {
		if l, e := Open(epoch); told(l) != told(api.Link{Epoch: epoch, Next: 1}) || e != api.OK || Check(l) != api.OK {
			t.Errorf("%d: %v %v", epoch, l, e)
		}
	}
	for _, epoch := range []int{0, -1, most + 1, math.MinInt, math.MaxInt} {
		if l, e := Open(epoch); told(l) != told(api.Link{}) || e != api.ErrRange {
			t.Errorf("%d: %v %v", epoch, l, e)
		}
	}
}

// P5.3, P5.4
func TestSend(t *testing.T) {
	f := edit(2, insert("é"), keep(1))
	full, more := joins(1, window), joins(50, 3)
	for i, c := range []struct {
		l       api.Link
		next    api.Link
		packets []api.Packet
	}{
		{at(1, 0, nil, nil), at(2, 0, []api.Frame{f}, nil), []api.Packet{with(1, 0, f)}},
		{at(1, 5, nil, nil), at(2, 5, []api.Frame{f}, nil), []api.Packet{with(1, 5, f)}},
		{at(9, 5, nil, nil), at(10, 5, []api.Frame{f}, nil), []api.Packet{with(9, 5, f)}},
		{at(9, 5, joins(1, 2), nil), at(10, 5, append(joins(1, 2), f), nil), []api.Packet{with(9, 5, f)}},
		{at(9, 5, joins(1, window-1), nil), at(10, 5, append(joins(1, window-1), f), nil), []api.Packet{with(9, 5, f)}},
		{at(9, 5, full, nil), at(9, 5, full, []api.Frame{f}), nil},
		{at(9, 5, full, more), at(9, 5, full, append(joins(50, 3), f)), nil},
		{at(most-1, most, nil, nil), at(most, most, []api.Frame{f}, nil), []api.Packet{with(most-1, most, f)}},
		{at(most-1, 5, full, more), at(most-1, 5, full, append(joins(50, 3), f)), nil},
	} {
		next, packets, e := Send(c.l, f)
		if told(next, packets, e) != told(c.next, c.packets, api.OK) {
			t.Errorf("case %d: %v %v %v, want %v %v", i, next, packets, e, c.next, c.packets)
		}
		if e := Check(next); e != api.OK {
			t.Errorf("case %d: %v: %v", i, next, e)
		}
	}
}

// P5.4: each refusal, and which is named first.
func TestSendRefuses(t *testing.T) {
	full := at(most, 0, joins(1, window), joins(9, 1))
	for i, c := range []struct {
		l    api.Link
		f    api.Frame
		want api.Errno
	}{
		{api.Link{}, wrongKind, api.ErrState},
		{at(most+1, 0, nil, nil), join(1), api.ErrState},
		{api.Link{Next: most, Heard: 1}, wrongKind, api.ErrState},
		{api.Link{Next: 1}, join(1), api.ErrAway},
		{api.Link{Next: 1}, wrongKind, api.ErrAway},
		{api.Link{Next: most}, join(1), api.ErrAway},
		{api.Link{Next: most}, wrongKind, api.ErrAway},
		{at(1, 0, nil, nil), api.Frame{}, api.ErrKind},
		{at(1, 0, nil, nil), wrongKind, api.ErrKind},
		{at(1, 0, nil, nil), wrongRange, api.ErrRange},
		{at(1, 0, nil, nil), wrongSize, api.ErrSize},
		{at(1, 0, nil, nil), wrongForm, api.ErrForm},
		{at(1, 0, nil, nil), wrongOp, api.ErrForm},
		{full, wrongRange, api.ErrRange},
		{at(most, 0, nil, nil), wrongSize, api.ErrSize},
		{full, join(1), api.ErrFull},
		{at(most, 0, nil, nil), join(1), api.ErrFull},
		{at(most, 0, joins(1, 3), nil), join(1), api.ErrFull},
	} {
		if l, packets, e := Send(c.l, c.f); e != c.want || told(l, packets) != told(api.Link{}, nil) {
			t.Errorf("case %d: %v %v %v, want %v", i, l, packets, e, c.want)
		}
	}
}

// P5.5: what is known to have come. 11, 12 and 13 are Sent.
func TestHearAck(t *testing.T) {
	l := at(14, 5, joins(11, 3), nil)
	for _, c := range []struct{ ack, left int }{
		{0, 3}, {1, 3}, {9, 3}, {10, 3}, {11, 2}, {12, 1}, {13, 0}, {14, 3}, {15, 3}, {most, 3},
	} {
		next, f, isTold, sent, e := Hear(l, without(c.ack))
		want := at(14, 5, joins(14-c.left, c.left), nil)
		if told(next, f, isTold, sent, e) != told(want, api.Frame{}, false, nil, api.OK) {
			t.Errorf("ack %d: %v %v %v %v %v, want %v", c.ack, next, f, isTold, sent, e, want)
		}
		next, f, isTold, sent, e = Hear(l, with(6, c.ack, join(77)))
		want.Heard = 6
		if told(next, f, isTold, sent, e) != told(want, join(77), true, []api.Packet{without(6)}, api.OK) {
			t.Errorf("ack %d, with a frame: %v %v %v %v %v, want %v", c.ack, next, f, isTold, sent, e, want)
		}
	}
	if next, _, _, _, e := Hear(at(14, 5, nil, nil), without(13)); told(next, e) != told(at(14, 5, nil, nil), api.OK) {
		t.Errorf("nothing is Sent: %v %v", next, e)
	}
}

// P5.5: just the next one is told; all are answered.
func TestHearFrame(t *testing.T) {
	f := edit(2, insert("é"), keep(1))
	for _, c := range []struct {
		heard, number int
		told          bool
	}{
		{0, 1, true}, {0, 2, false}, {0, most, false},
		{5, 6, true}, {5, 5, false}, {5, 4, false}, {5, 1, false}, {5, 7, false}, {5, most, false},
		{most - 1, most, true}, {most - 1, most - 1, false},
		{most, most, false}, {most, 1, false},
	} {
		want, frame := at(1, c.heard, nil, nil), api.Frame{}
		if c.told {
			want.Heard, frame = c.number, f
		}
		next, g, isTold, sent, e := Hear(at(1, c.heard, nil, nil), with(c.number, 0, f))
		if told(next, g, isTold, sent, e) != told(want, frame, c.told, []api.Packet{without(want.Heard)}, api.OK) {
			t.Errorf("%v: %v %v %v %v %v", c, next, g, isTold, sent, e)
		}
	}
	next, g, isTold, sent, e := Hear(at(4, 5, nil, nil), without(0))
	if told(next, g, isTold, sent, e) != told(at(4, 5, nil, nil), api.Frame{}, false, nil, api.OK) {
		t.Errorf("bare: %v %v %v %v %v", next, g, isTold, sent, e)
	}
}

// P5.5: what waits goes on, behind the Ack and with what was heard. 11 to 18 are Sent.
func TestHearQueueGoesOn(t *testing.T) {
	for _, c := range []struct{ waits, ack, goes int }{
		{0, 18, 0}, {3, 10, 0}, {3, 19, 0}, {3, 11, 1}, {3, 13, 3}, {3, 14, 3}, {3, 18, 3},
		{20, 11, 1}, {20, 17, 7}, {20, 18, 8}, {8, 18, 8}, {9, 18, 8},
	} {
		l := at(19, 5, joins(11, window), joins(19, c.waits))
		first := 11
		if c.ack >= 11 && c.ack <= 18 {
			first = c.ack + 1
		}
		want := at(19+c.goes, 6, joins(first, 19+c.goes-first), joins(19+c.goes, c.waits-c.goes))
		var packets []api.Packet
		for i := range c.goes {
			packets = append(packets, with(19+i, 6, join(19+i)))
		}
		next, _, isTold, sent, e := Hear(l, with(6, c.ack, join(77)))
		if told(next, isTold, sent, e) != told(want, true, append(packets, without(6)), api.OK) {
			t.Errorf("%v: %v %v %v %v, want %v %v", c, next, isTold, sent, e, want, packets)
		}
		for i := range packets {
			packets[i].Ack = 5
		}
		want.Heard = 5
		if next, _, isTold, sent, e = Hear(l, without(c.ack)); told(next, isTold, sent, e) != told(want, false, packets, api.OK) {
			t.Errorf("%v, bare: %v %v %v %v, want %v %v", c, next, isTold, sent, e, want, packets)
		}
		if e := Check(next); e != api.OK {
			t.Errorf("%v: %v: %v", c, next, e)
		}
	}
}

// P5.4, P5.5: no frame has the number MaxNumber; what is left waits, and Check refuses that side then.
func TestHearNumbersEnd(t *testing.T) {
	for _, c := range []struct{ next, waits, came, goes int }{
		{most, 2, 1, 0}, {most, 2, window, 0}, {most, 0, window, 0},
		{most - 1, 1, 1, 1}, {most - 1, 2, 2, 1}, {most - 1, 5, window, 1},
		{most - 3, 5, 2, 2}, {most - 3, 5, 4, 3}, {most - 3, 3, 3, 3},
	} {
		frames := joins(1, window+c.waits)
		l := at(c.next, 5, frames[:window], frames[window:])
		want := at(c.next+c.goes, 5, frames[c.came:window+c.goes], frames[window+c.goes:])
		next, _, _, sent, e := Hear(l, without(c.next-window+c.came-1))
		if told(next, e) != told(want, api.OK) || len(sent) != c.goes {
			t.Errorf("%v: %v %v %v, want %v", c, next, sent, e, want)
		}
		if mayBe := len(next.Queue) == 0 || len(next.Sent) == window; (Check(next) == api.OK) != mayBe {
			t.Errorf("%v: %v: %v", c, next, Check(next))
		}
	}
}

// P5.5: each refusal, and which is named first.
func TestHearRefuses(t *testing.T) {
	other := func(epoch int, p api.Packet) api.Packet { p.Epoch = epoch; return p }
	open := at(1, 0, nil, nil)
	for i, c := range []struct {
		l    api.Link
		p    api.Packet
		want api.Errno
	}{
		{api.Link{}, without(-1), api.ErrState},
		{api.Link{}, without(0), api.ErrState},
		{at(0, 0, nil, nil), other(4, without(0)), api.ErrState},
		{open, without(-1), api.ErrRange},
		{open, without(most + 1), api.ErrRange},
		{open, other(-1, without(0)), api.ErrRange},
		{open, other(most+1, without(0)), api.ErrRange},
		{open, with(most+1, 0, join(1)), api.ErrRange},
		{at(1, most, nil, nil), with(most+1, 0, join(1)), api.ErrRange},
		{open, other(4, with(0, 0, join(1))), api.ErrForm},
		{open, other(0, with(1, 0, join(1))), api.ErrForm},
		{open, api.Packet{Epoch: 3, Bare: true, Number: 1}, api.ErrForm},
		{open, api.Packet{Epoch: 3, Bare: true, Frame: join(1)}, api.ErrForm},
		{open, with(1, 0, wrongKind), api.ErrKind},
		{open, with(1, 0, wrongSize), api.ErrSize},
		{open, with(2, 0, wrongRange), api.ErrRange},
		{open, other(4, with(1, 0, wrongForm)), api.ErrForm},
		{api.Link{Next: 1}, with(1, 0, wrongKind), api.ErrKind},
		{api.Link{Next: 1}, without(-1), api.ErrRange},
		{api.Link{Next: 1}, without(0), api.ErrAway},
		{api.Link{Next: 1}, with(1, 0, join(1)), api.ErrAway},
		{api.Link{Next: 1}, api.Packet{Bare: true}, api.ErrAway},
		{open, api.Packet{Bare: true}, api.ErrAway},
		{open, other(2, with(1, 0, join(1))), api.ErrAway},
		{open, other(4, with(1, 0, join(1))), api.ErrAway},
		{open, other(2, without(0)), api.ErrAway},
		{open, other(most, without(0)), api.ErrAway},
	} {
		if next, f, isTold, sent, e := Hear(c.l, c.p); e != c.want || told(next, f, isTold, sent) != told(api.Link{}, api.Frame{}, false, nil) {
			t.Errorf("case %d: %v %v %v %v %v, want %v", i, next, f, isTold, sent, e, c.want)
		}
	}
}

// P5.3, P5.6
func TestTick(t *testing.T) {
	f := edit(2, insert("é"), keep(1))
	var all []api.Packet
	for i := range window {
		all = append(all, with(11+i, 5, join(11+i)))
	}
	for i, c := range []struct {
		l    api.Link
		want []api.Packet
	}{
		{api.Link{Next: 1}, nil},
		{api.Link{Next: most}, nil},
		{at(1, 0, nil, nil), []api.Packet{without(0)}},
		{at(1, 4, nil, nil), []api.Packet{without(4)}},
		{at(most, most, nil, nil), []api.Packet{without(most)}},
		{at(2, 4, []api.Frame{f}, nil), []api.Packet{with(1, 4, f)}},
		{at(most, 4, []api.Frame{f, join(1)}, nil), []api.Packet{with(most-2, 4, f), with(most-1, 4, join(1))}},
		{at(19, 5, joins(11, window), nil), all},
		{at(19, 5, joins(11, window), joins(19, 9)), all},
		{at(14, 5, joins(11, 3), nil), all[:3]},
	} {
		if got, e := Tick(c.l); told(got, e) != told(c.want, api.OK) {
			t.Errorf("case %d: %v %v, want %v", i, got, e, c.want)
		}
	}
	for i, l := range append(wrongAt(), wrongSides...) {
		if got, e := Tick(l); len(got) > 0 || e != api.ErrState {
			t.Errorf("wrong side %d: %v %v", i, got, e)
		}
	}
}

// P5.1: ahead of all else, and all other answers are zero.
func TestWrongSidesAreRefused(t *testing.T) {
	for i, l := range append(wrongAt(), wrongSides...) {
		for _, f := range []api.Frame{join(1), wrongKind} {
			if next, packets, e := Send(l, f); e != api.ErrState || told(next, packets) != told(api.Link{}, nil) {
				t.Errorf("side %d: Send: %v %v %v", i, next, packets, e)
			}
			for _, p := range []api.Packet{with(1, 0, f), without(0), {Epoch: 4, Bare: true, Ack: -1}} {
				if next, g, isTold, sent, e := Hear(l, p); e != api.ErrState || told(next, g, isTold, sent) != told(api.Link{}, api.Frame{}, false, nil) {
					t.Errorf("side %d: Hear: %v %v %v %v %v", i, next, g, isTold, sent, e)
				}
			}
		}
	}
}

// P5.4: those of Queue go in their order, and a window's frames at most are on the way.
func TestSendMany(t *testing.T) {
	l, _ := Open(3)
	for i := range 3 * window {
		var e api.Errno
		if l, _, e = Send(l, join(i+1)); e != api.OK || Check(l) != api.OK {
			t.Fatalf("%d: %v %v", i, e, l)
		}
	}
	if want := at(window+1, 0, joins(1, window), joins(window+1, 2*window)); told(l) != told(want) {
		t.Errorf("%v, want %v", l, want)
	}
	if got, _ := Tick(l); len(got) != window || !slices.IsSortedFunc(got, func(a, b api.Packet) int { return a.Number - b.Number }) {
		t.Errorf("%v", got)
	}
}
