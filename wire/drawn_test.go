package wire

import (
	"bytes"
	"math/rand"
	"strings"
	"testing"

	"wherry/api"
)

// drawnNumber of all lengths.
func drawnNumber(r *rand.Rand) int {
	return r.Intn([]int{1, 3, 128, 16384, most + 1}[r.Intn(5)])
}

// drawnOp: between two runes that are kept an insertion, a deletion, or both stand, in this order.
func drawnOp(r *rand.Rand) api.Op {
	var o api.Op
	if r.Intn(2) == 0 {
		o = append(o, keep(1+r.Intn(300)))
	}
	for range r.Intn(5) {
		which := r.Intn(3)
		if which != 0 {
			o = append(o, insert([]string{"a", "é", "世𝄞", hundredFifty}[r.Intn(4)]))
		}
		if which != 1 {
			o = append(o, remove(1+r.Intn(300)))
		}
		o = append(o, keep(1+r.Intn(300)))
	}
	return o
}

func drawnFrame(r *rand.Rand) api.Frame {
	switch r.Intn(3) {
	case 0:
		return edit(drawnNumber(r), drawnOp(r)...)
	case 1:
		return join(max(1, drawnNumber(r)), drawnNumber(r))
	default:
		return whole(max(1, drawnNumber(r)), []string{"", "a", "é世𝄞", hundredFifty}[r.Intn(4)])
	}
}

func drawnPacket(r *rand.Rand) api.Packet {
	if r.Intn(4) == 0 {
		return bare(drawnNumber(r), drawnNumber(r))
	}
	return packet(max(1, drawnNumber(r)), drawnNumber(r), max(1, drawnNumber(r)), drawnFrame(r))
}

func drawnRecord(r *rand.Rand) api.Record {
	if r.Intn(3) == 0 {
		return api.Record{Epoch: drawnNumber(r)}
	}
	return api.Record{Op: drawnOp(r)}
}

// encoded: the bytes of what may be.
func encoded(t *testing.T, b []byte, e api.Errno) []byte {
	t.Helper()
	if e != api.OK {
		t.Fatal(e)
	}
	return b
}

// thereAndBack: what is encoded is decoded.
func thereAndBack(t *testing.T, p api.Packet, d api.Record) {
	t.Helper()
	a, e := EncodePacket(p)
	if q, c := DecodePacket(encoded(t, a, e)); told(q, c) != told(p, api.OK) {
		t.Fatalf("%v: %v: %v %v", p, a, q, c)
	}
	b, e := EncodeRecord(d)
	if q, c := DecodeRecord(encoded(t, b, e)); told(q, c) != told(d, api.OK) {
		t.Fatalf("%v: %v: %v %v", d, b, q, c)
	}
}

// P3.5 to P3.7
func TestThereAndBack(t *testing.T) {
	r := rand.New(rand.NewSource(3))
	for range 5000 {
		thereAndBack(t, drawnPacket(r), drawnRecord(r))
	}
}

// P3.5 to P3.7: the longest ones that may be are not too long to be decoded.
func TestLongest(t *testing.T) {
	var o api.Op
	for range api.MaxText / 2 {
		o = append(o, insert("𝄞"), remove(1), keep(1))
	}
	s := strings.Repeat("𝄞", api.MaxText)
	for _, f := range []api.Frame{edit(most, o...), edit(most, insert(s), remove(api.MaxText)), whole(most, s)} {
		thereAndBack(t, packet(most, most, most, f), api.Record{Op: f.Op})
	}
}

// slow and plain reading of P3.4 and P3.7, by which the program's answers are judged. It leaves by a panic with an Errno.
type slow struct{ left []byte }

func (s *slow) byte() byte {
	if len(s.left) == 0 {
		panic(api.ErrShort)
	}
	b := s.left[0]
	s.left = s.left[1:]
	return b
}

func (s *slow) number() int {
	var digits []byte
	for len(digits) == 0 || digits[len(digits)-1] >= 128 {
		if len(digits) == 4 {
			panic(api.ErrForm)
		}
		digits = append(digits, s.byte())
	}
	if len(digits) > 1 && digits[len(digits)-1] == 0 {
		panic(api.ErrForm)
	}
	n, worth := 0, 1
	for _, d := range digits {
		n += int(d&127) * worth
		worth *= 128
	}
	return n
}

func (s *slow) text() string {
	var l []byte
	for range s.number() {
		l = append(l, s.byte())
	}
	return string(l)
}

func (s *slow) op() api.Op {
	var o api.Op
	for range s.number() {
		kind := s.number()
		if kind == 2 {
			o = append(o, insert(s.text()))
		} else {
			o = append(o, api.Part{Kind: kind, N: s.number()})
		}
	}
	return o
}

func (s *slow) packet() api.Packet {
	epoch, ack := s.number(), s.number()
	number := s.number()
	if number == 0 {
		return bare(epoch, ack)
	}
	kind, first := s.number(), s.number()
	f := api.Frame{Kind: kind, Epoch: first}
	switch kind {
	case 1:
		f = edit(first, s.op()...)
	case 3:
		f.Text = s.text()
	default:
		f.Heard = s.number()
	}
	return packet(epoch, ack, number, f)
}

func (s *slow) record() api.Record {
	if epoch := s.number(); epoch > 0 {
		return api.Record{Epoch: epoch}
	}
	return api.Record{Op: s.op()}
}

// slowly: the thing, or what is wrong.
func slowly[T any](b []byte, read func(*slow) T, check func(T) api.Errno) (thing T, e api.Errno) {
	defer func() {
		if wrong := recover(); wrong != nil {
			var none T
			thing, e = none, wrong.(api.Errno)
		}
	}()
	s := &slow{b}
	thing = read(s)
	if len(s.left) > 0 {
		panic(api.ErrForm)
	}
	if c := check(thing); c != api.OK {
		panic(c)
	}
	return thing, api.OK
}

// spoiled: bytes with some changed, left out, or put in.
func spoiled(r *rand.Rand, b []byte) []byte {
	b = append([]byte(nil), b...)
	for range r.Intn(3) {
		i := r.Intn(len(b) + 1)
		x := []byte{0, 1, 2, 3, 4, 127, 128, 129, 255}[r.Intn(9)]
		switch {
		case i == len(b) || r.Intn(3) == 0:
			b = append(b[:i], append([]byte{x}, b[i:]...)...)
		case r.Intn(2) == 0:
			b[i] = x
		default:
			b = append(b[:i], b[i+1:]...)
		}
	}
	return b
}

// noise of small numbers, so that much of it is in form.
func noise(r *rand.Rand) []byte {
	b := make([]byte, r.Intn(12))
	for i := range b {
		b[i] = []byte{0, 1, 1, 1, 2, 2, 3, 3, 'a', 128, 130, 255}[r.Intn(12)]
	}
	return b
}

// P3.7: whatever the bytes are, they are answered as the plain reading does; those that are taken are the only ones of their packet or record.
func TestSpoiled(t *testing.T) {
	r := rand.New(rand.NewSource(7))
	seen := map[api.Errno]int{}
	for range 60000 {
		b := noise(r)
		if r.Intn(2) == 0 {
			a, e := EncodePacket(drawnPacket(r))
			b = spoiled(r, encoded(t, a, e))
		} else if r.Intn(2) == 0 {
			a, e := EncodeRecord(drawnRecord(r))
			b = spoiled(r, encoded(t, a, e))
		}
		p, e := DecodePacket(b)
		if want := told(slowly(b, (*slow).packet, CheckPacket)); told(p, e) != want {
			t.Fatalf("packet %v: %v %v, want %s", b, p, e, want)
		}
		d, c := DecodeRecord(b)
		if want := told(slowly(b, (*slow).record, CheckRecord)); told(d, c) != want {
			t.Fatalf("record %v: %v %v, want %s", b, d, c, want)
		}
		if again, _ := EncodePacket(p); e == api.OK && !bytes.Equal(again, b) {
			t.Fatalf("packet %v: %v: %v", b, p, again)
		}
		if again, _ := EncodeRecord(d); c == api.OK && !bytes.Equal(again, b) {
			t.Fatalf("record %v: %v: %v", b, d, again)
		}
		seen[e]++
		seen[c]++
	}
	for _, e := range []api.Errno{api.OK, api.ErrRange, api.ErrKind, api.ErrForm, api.ErrShort} {
		if seen[e] < 100 {
			t.Errorf("%v was drawn %d times only", e, seen[e])
		}
	}
}
