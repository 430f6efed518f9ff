package wire

import (
	"bytes"
	"fmt"
	"math"
	"testing"

	"wherry/api"
)

// roomy: the same bytes, with something in their spare room.
func roomy(b []byte) []byte {
	return append(append([]byte{}, b...), 77, 78, 79)[:len(b)]
}

// roomyOp: the same list, with something in its spare room.
func roomyOp(o api.Op) api.Op {
	return append(append(api.Op{}, o...), keep(77), insert("spare"))[:len(o)]
}

// allOf an operation, its spare room too.
func allOf(o api.Op) string { return fmt.Sprint(o[:cap(o)]) }

func scribble(b []byte) {
	b = b[:cap(b)]
	for i := range b {
		b[i] = 255
	}
}

func scribbleOp(o api.Op) {
	o = o[:cap(o)]
	for i := range o {
		o[i] = api.Part{Kind: -1, N: -1, Text: "scribble"}
	}
}

// What is handed in to be encoded is not changed, and no two answers share memory.
func TestEncodeSharesNothing(t *testing.T) {
	o := roomyOp(api.Op{keep(1), insert("é"), remove(2)})
	want := allOf(o)
	p, r := packet(1, 0, 1, edit(0, o...)), api.Record{Op: o}
	for _, encode := range []func() ([]byte, api.Errno){
		func() ([]byte, api.Errno) { return EncodePacket(p) },
		func() ([]byte, api.Errno) { return EncodeRecord(r) },
		func() ([]byte, api.Errno) { return EncodePacket(bare(1, 2)) },
	} {
		a, e := encode()
		b, c := encode()
		first := told(b)
		scribble(a)
		if e != api.OK || c != api.OK || told(b) != first {
			t.Errorf("%v: %v %v, was %s", a, b, e, first)
		}
	}
	CheckFrame(p.Frame)
	CheckPacket(p)
	CheckRecord(r)
	if allOf(o) != want {
		t.Errorf("%s became %s", want, allOf(o))
	}
}

// apart: bytes are not changed by what is decoded of them, and that is not changed by the bytes, nor by another answer.
func apart(t *testing.T, b []byte, decode func([]byte) (string, func() string, api.Op)) {
	t.Helper()
	b = roomy(b)
	all := append([]byte(nil), b[:cap(b)]...)
	was, tell, _ := decode(b)
	_, _, other := decode(b)
	scribbleOp(other)
	if !bytes.Equal(b[:cap(b)], all) {
		t.Errorf("%v became %v", all, b[:cap(b)])
	}
	scribble(b)
	if tell() != was {
		t.Errorf("%v: %s became %s", all, was, tell())
	}
}

// What is handed in to be decoded is not changed, and what comes out shares nothing with it.
func TestDecodeSharesNothing(t *testing.T) {
	for _, c := range packets {
		apart(t, c.b, func(b []byte) (string, func() string, api.Op) {
			p, e := DecodePacket(b)
			return told(p, e), func() string { return told(p, e) }, p.Frame.Op
		})
	}
	for _, c := range records {
		apart(t, c.b, func(b []byte) (string, func() string, api.Op) {
			r, e := DecodeRecord(b)
			return told(r, e), func() string { return told(r, e) }, r.Op
		})
	}
}

// Hard inputs: every call ends, and none panics; with an error all else is zero.
func TestEverythingIsAnswered(t *testing.T) {
	numbers := []int{math.MinInt, -1, 0, 1, 3, most, most + 1, math.MaxInt}
	ops := []api.Op{nil, {}, {keep(1)}, {keep(math.MaxInt), remove(math.MaxInt)}, {insert("\xff")}, {{}}, make(api.Op, api.MaxParts+1)}
	for _, o := range ops {
		for _, s := range []string{"", "é", "\xff"} {
			for _, a := range numbers {
				for _, b := range numbers {
					answered(t, api.Record{Epoch: a, Op: o})
					for _, kind := range numbers {
						answeredPackets(t, a, b, api.Frame{Kind: kind, Heard: a, Epoch: b, Op: o, Text: s})
					}
				}
			}
		}
	}
}

// answered: what is encoded is just what the Check takes.
func answered(t *testing.T, r api.Record) {
	t.Helper()
	b, e := EncodeRecord(r)
	if e != CheckRecord(r) || (len(b) > 0) != (e == api.OK) {
		t.Fatalf("%v: %v %v", r, b, e)
	}
}

// answeredPackets: what is encoded is just what the Check takes.
func answeredPackets(t *testing.T, epoch, number int, f api.Frame) {
	t.Helper()
	for _, isBare := range []bool{false, true} {
		p := packet(epoch, number, number, f)
		p.Bare = isBare
		b, e := EncodePacket(p)
		if e != CheckPacket(p) || (len(b) > 0) != (e == api.OK) {
			t.Fatalf("%v: %v %v", p, b, e)
		}
	}
}
