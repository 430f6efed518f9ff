package link

import (
	"fmt"
	"math"
	"slices"
	"strings"
	"testing"

	"wherry/api"
)

// full: frames of which each has an operation; all lists have something in their spare room.
func full(n int) []api.Frame {
	var l []api.Frame
	for i := range n {
		o := api.Op{insert("é"), keep(i + 1), keep(77), insert("spare")}
		l = append(l, edit(i, o[:2]...))
	}
	return append(l, whole(88, "spare"), edit(89, insert("spare"), keep(1)))[:n]
}

// allOf frames, their spare room and that of their operations too.
func allOf(l []api.Frame) string {
	var s strings.Builder
	for _, f := range l[:cap(l)] {
		fmt.Fprint(&s, f, f.Op[:cap(f.Op)])
	}
	return s.String()
}

func scribbleOp(o api.Op) {
	o = o[:cap(o)]
	for i := range o {
		o[i] = api.Part{Kind: -1, N: -1, Text: "scribble"}
	}
}

// scribble over frames, their operations and the spare room of all of these.
func scribble(l []api.Frame) {
	l = l[:cap(l)]
	for i := range l {
		scribbleOp(l[i].Op)
		l[i] = api.Frame{Kind: -1, Text: "scribble"}
	}
}

func scribblePackets(l []api.Packet) {
	l = l[:cap(l)]
	for i := range l {
		scribbleOp(l[i].Frame.Op)
		l[i] = api.Packet{Epoch: -1, Frame: api.Frame{Kind: -1}}
	}
}

// answer of a call: all that has lists.
type answer struct {
	l api.Link
	p []api.Packet
	f api.Frame
}

// answers of each call.
func answers(l api.Link, p api.Packet) []answer {
	a, ps, _ := Send(l, p.Frame)
	b, f, _, qs, _ := Hear(l, p)
	rs, _ := Tick(l)
	return []answer{{l: a, p: ps}, {l: b, p: qs, f: f}, {p: rs}}
}

// parts of an answer: each one is scribbled over alone, and told alone.
func (a *answer) parts() ([]func(), []func() string) {
	scribbles := []func(){
		func() { scribble(a.l.Sent) },
		func() { scribble(a.l.Queue) },
		func() { scribblePackets(a.p) },
		func() { scribbleOp(a.f.Op) },
	}
	tells := []func() string{
		func() string { return told(a.l.Sent) },
		func() string { return told(a.l.Queue) },
		func() string { return told(a.p) },
		func() string { return told(a.f) },
	}
	for i := range a.p {
		scribbles = append(scribbles, func() { scribbleOp(a.p[i].Frame.Op) })
		tells = append(tells, func() string { return told(a.p[i]) })
	}
	for _, l := range [][]api.Frame{a.l.Sent, a.l.Queue} {
		for i := range l {
			scribbles = append(scribbles, func() { scribbleOp(l[i].Op) })
			tells = append(tells, func() string { return told(l[i]) })
		}
	}
	return scribbles, tells
}

// within: which parts of an answer have others in them?
func within(whole, part int, a answer) bool {
	packets, sent := 4+len(a.p), 4+len(a.p)+len(a.l.Sent)
	switch {
	case whole == part:
		return true
	case part < 4:
		return false
	case part < packets:
		return whole == 2
	case part < sent:
		return whole == 0
	default:
		return whole == 1
	}
}

// cases: sides and packets with lists in all that is answered.
func cases() ([]api.Link, api.Packet) {
	return []api.Link{at(1, 5, nil, nil), at(13, 5, full(3), nil), at(19, 5, full(window), nil), at(19, 5, full(window), full(3)), at(19, 5, full(window), full(20))},
		with(6, 13, full(1)[0])
}

// What is handed in is not changed, its spare room neither, and no answer shares memory with it or with another answer.
func TestSharesNothing(t *testing.T) {
	links, p := cases()
	for i, l := range links {
		was := allOf(l.Sent) + allOf(l.Queue) + allOf([]api.Frame{p.Frame})
		first, second := answers(l, p), answers(l, p)
		want := told(second)
		for _, a := range first {
			scribbles, _ := a.parts()
			for _, s := range scribbles {
				s()
			}
		}
		if now := allOf(l.Sent) + allOf(l.Queue) + allOf([]api.Frame{p.Frame}); now != was {
			t.Errorf("side %d: %s became %s", i, was, now)
		}
		scribble(l.Sent)
		scribble(l.Queue)
		scribbleOp(p.Frame.Op)
		if told(second) != want {
			t.Errorf("side %d: %s became %s", i, want, told(second))
		}
		p = with(6, 13, full(1)[0])
	}
}

// No two lists of one answer share any memory.
func TestListsOfAnAnswerAreApart(t *testing.T) {
	links, p := cases()
	for i, l := range links {
		for k, a := range answers(l, p) {
			scribbles, _ := a.parts()
			for n := range scribbles {
				again := answers(l, p)[k]
				scribbles, tells := again.parts()
				var was []string
				for _, tell := range tells {
					was = append(was, tell())
				}
				scribbles[n]()
				for m, tell := range tells {
					if !within(n, m, a) && !within(m, n, a) && tell() != was[m] {
						t.Errorf("side %d, call %d: %d shares with %d: %s became %s", i, k, m, n, was[m], tell())
					}
				}
			}
		}
	}
}

// Hard inputs: every call ends, and none panics; with an error all else is zero.
func TestEverythingIsAnswered(t *testing.T) {
	numbers := []int{math.MinInt, -1, 0, 1, 9, most, most + 1, math.MaxInt}
	lists := [][]api.Frame{nil, {}, {{}}, joins(1, 1), full(window), append(full(window-1), wrongOp), full(window + 1)}
	frames := append(slices.Concat(lists...), wrongFrames...)
	for _, next := range numbers {
		for _, heard := range numbers {
			for _, epoch := range numbers {
				for _, sent := range lists {
					for _, queue := range lists[2:5] {
						l := api.Link{Epoch: epoch, Next: next, Heard: heard, Sent: sent, Queue: queue}
						answered(t, l, api.Packet{Epoch: epoch, Number: heard, Ack: next, Frame: frames[(len(sent)+len(queue))%len(frames)]})
						l.Queue = nil
						answered(t, l, api.Packet{Epoch: epoch, Number: heard + 1, Ack: next - 1, Frame: join(1)})
						answered(t, l, api.Packet{Epoch: epoch, Ack: next, Bare: true})
					}
				}
			}
		}
	}
}

// answered: with an error there is nothing else.
func answered(t *testing.T, l api.Link, p api.Packet) {
	t.Helper()
	checked := Check(l)
	if next, packets, e := Send(l, p.Frame); e != api.OK && told(next, packets) != told(api.Link{}, nil) || checked != api.OK && e != checked {
		t.Errorf("Send %v %v: %v %v %v", l, p, next, packets, e)
	}
	if next, f, isTold, sent, e := Hear(l, p); e != api.OK && told(next, f, isTold, sent) != told(api.Link{}, api.Frame{}, false, nil) || checked != api.OK && e != checked {
		t.Errorf("Hear %v %v: %v %v %v %v %v", l, p, next, f, isTold, sent, e)
	}
	if packets, e := Tick(l); e != checked || e != api.OK && len(packets) > 0 {
		t.Errorf("Tick %v: %v %v", l, packets, e)
	}
}
