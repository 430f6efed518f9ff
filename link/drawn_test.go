package link

import (
	"math/rand"
	"slices"
	"testing"

	"wherry/api"
)

// drawnFrame: some of each kind.
func drawnFrame(r *rand.Rand) api.Frame {
	switch r.Intn(3) {
	case 0:
		return join(1 + r.Intn(300))
	case 1:
		return whole(1+r.Intn(300), []string{"", "é", "世界"}[r.Intn(3)])
	default:
		return edit(r.Intn(300), insert([]string{"a", "é", "世界"}[r.Intn(3)]), keep(1+r.Intn(5)))
	}
}

// model of a side, slowly and plainly: all frames that were ever handed to it, how many of these are known to have come, and how many went.
type model struct {
	all               []api.Frame
	came, went, heard int
}

func (m *model) side() api.Link {
	return at(m.went+1, m.heard, m.all[m.came:m.went], m.all[m.went:])
}

// on: the packets of the frames that go now.
func (m *model) on() []api.Packet {
	var l []api.Packet
	for m.went < len(m.all) && m.went-m.came < window {
		m.went++
		l = append(l, with(m.went, m.heard, m.all[m.went-1]))
	}
	return l
}

func (m *model) send(f api.Frame) []api.Packet {
	m.all = append(m.all, f)
	return m.on()
}

func (m *model) hear(p api.Packet) (api.Frame, bool, []api.Packet) {
	if p.Ack > m.came && p.Ack <= m.went {
		m.came = p.Ack
	}
	isTold := !p.Bare && p.Number == m.heard+1
	f := api.Frame{}
	if isTold {
		f = p.Frame
		m.heard++
	}
	l := m.on()
	if !p.Bare {
		l = append(l, without(m.heard))
	}
	return f, isTold, l
}

func (m *model) tick() []api.Packet {
	var l []api.Packet
	for i := m.came; i < m.went; i++ {
		l = append(l, with(i+1, m.heard, m.all[i]))
	}
	if l == nil {
		l = append(l, without(m.heard))
	}
	return l
}

// drawnPacket: mostly near what the side waits for.
func drawnPacket(r *rand.Rand, l api.Link) api.Packet {
	ack := max(0, l.Next-len(l.Sent)-2+r.Intn(len(l.Sent)+4))
	if r.Intn(3) == 0 {
		return without(ack)
	}
	return with(max(1, l.Heard-1+r.Intn(4)), ack, drawnFrame(r))
}

// P5.3 to P5.6
func TestAsTheModel(t *testing.T) {
	r := rand.New(rand.NewSource(5))
	for range 200 {
		m, l := model{}, at(1, 0, nil, nil)
		for range 100 {
			if r.Intn(2) == 0 {
				f := drawnFrame(r)
				next, packets, e := Send(l, f)
				if want := m.send(f); told(next, packets, e) != told(m.side(), want, api.OK) {
					t.Fatalf("Send %v %v: %v %v %v, want %v %v", l, f, next, packets, e, m.side(), want)
				}
				l = next
			} else {
				p := drawnPacket(r, l)
				next, f, isTold, sent, e := Hear(l, p)
				if g, wantTold, want := m.hear(p); told(next, f, isTold, sent, e) != told(m.side(), g, wantTold, want, api.OK) {
					t.Fatalf("Hear %v %v: %v %v %v %v %v, want %v %v %v %v", l, p, next, f, isTold, sent, e, m.side(), g, wantTold, want)
				}
				l = next
			}
			if packets, e := Tick(l); told(packets, e) != told(m.tick(), api.OK) || Check(l) != api.OK {
				t.Fatalf("Tick %v: %v %v, want %v", l, packets, e, m.tick())
			}
		}
	}
}

// end of a session: a side, what was handed to it, what it told, and the packets on the way to it.
type end struct {
	l          api.Link
	sent, told []api.Frame
	way        []api.Packet
}

// hear the packet at a place of what is on the way.
func (a *end) hear(t *testing.T, other *end, i int) {
	t.Helper()
	p := a.way[i]
	a.way = slices.Delete(a.way, i, i+1)
	next, f, isTold, sent, e := Hear(a.l, p)
	if e != api.OK {
		t.Fatalf("%v %v: %v", a.l, p, e)
	}
	a.l, other.way = next, append(other.way, sent...)
	if isTold {
		a.told = append(a.told, f)
	}
}

// step of a session whose packets are lost, come twice, or late.
func (a *end) step(t *testing.T, r *rand.Rand, other *end) {
	t.Helper()
	i := r.Intn(len(a.way) + 1)
	switch n := r.Intn(12); {
	case n < 3:
		f := drawnFrame(r)
		next, packets, e := Send(a.l, f)
		if e != api.OK {
			t.Fatalf("%v %v: %v", a.l, f, e)
		}
		a.l, a.sent, other.way = next, append(a.sent, f), append(other.way, packets...)
	case n == 3:
		packets, _ := Tick(a.l)
		other.way = append(other.way, packets...)
	case i == len(a.way):
	case n == 4:
		a.way = slices.Delete(a.way, i, i+1)
	case n == 5:
		a.way = append(a.way, a.way[i])
	default:
		a.hear(t, other, i)
	}
}

// What comes of it: what is told is what was sent, in its order, each frame once.
func TestToldIsWhatWasSent(t *testing.T) {
	r := rand.New(rand.NewSource(55))
	for range 100 {
		a, b := &end{l: at(1, 0, nil, nil)}, &end{l: at(1, 0, nil, nil)}
		for range 300 {
			a.step(t, r, b)
			b.step(t, r, a)
			if told(b.told) != told(a.sent[:len(b.told)]) || told(a.told) != told(b.sent[:len(a.told)]) {
				t.Fatalf("%v told, %v sent; %v told, %v sent", b.told, a.sent, a.told, b.sent)
			}
		}
		comeTogether(t, a, b)
	}
}

// comeTogether: when packets come at last, all that was sent is told, and known to have come.
func comeTogether(t *testing.T, a, b *end) {
	t.Helper()
	for range len(a.sent) + len(b.sent) + 2 {
		first, _ := Tick(a.l)
		second, _ := Tick(b.l)
		a.way, b.way = append(a.way, second...), append(b.way, first...)
		for len(a.way)+len(b.way) > 0 {
			if len(a.way) > 0 {
				a.hear(t, b, 0)
			} else {
				b.hear(t, a, 0)
			}
		}
	}
	if told(a.told, b.told) != told(b.sent, a.sent) {
		t.Fatalf("%v told, %v sent; %v told, %v sent", b.told, a.sent, a.told, b.sent)
	}
	want := []api.Link{at(len(a.sent)+1, len(b.sent), nil, nil), at(len(b.sent)+1, len(a.sent), nil, nil)}
	if told(a.l, b.l) != told(want[0], want[1]) {
		t.Fatalf("%v %v, want %v", a.l, b.l, want)
	}
}
