package wire

import (
	"math"
	"strings"
	"testing"

	"wherry/api"
)

func keep(n int) api.Part      { return api.Part{Kind: api.Keep, N: n} }
func remove(n int) api.Part    { return api.Part{Kind: api.Delete, N: n} }
func insert(s string) api.Part { return api.Part{Kind: api.Insert, Text: s} }

func long(n int) string { return strings.Repeat("é", n) }

func edit(heard int, l ...api.Part) api.Frame {
	return api.Frame{Kind: api.Edit, Heard: heard, Op: l}
}
func join(epoch, heard int) api.Frame {
	return api.Frame{Kind: api.Join, Epoch: epoch, Heard: heard}
}
func whole(epoch int, s string) api.Frame {
	return api.Frame{Kind: api.Whole, Epoch: epoch, Text: s}
}

// packet with a frame.
func packet(epoch, ack, number int, f api.Frame) api.Packet {
	return api.Packet{Epoch: epoch, Ack: ack, Number: number, Frame: f}
}
func bare(epoch, ack int) api.Packet {
	return api.Packet{Epoch: epoch, Ack: ack, Bare: true}
}

const most = api.MaxNumber

// outside of the bounds of a number.
var outside = []int{math.MinInt, -1, most + 1, 1 << 28, math.MaxInt}

// Operations that may not be, one for each refusal.
var (
	wrongSize  = api.Op{keep(api.MaxText), insert("x")}
	wrongRange = api.Op{keep(0)}
	wrongKind  = api.Op{{Kind: 4, N: 1}}
	wrongForm  = api.Op{keep(1), keep(1)}
)

// some operation that may be.
var some = api.Op{keep(1)}

// P3.1
func TestCheckFrame(t *testing.T) {
	for i, c := range []struct {
		f    api.Frame
		want api.Errno
	}{
		{edit(0), api.OK},
		{api.Frame{Kind: api.Edit, Op: api.Op{}}, api.OK},
		{edit(most, insert("é"), remove(2), keep(3)), api.OK},
		{edit(0, insert(long(api.MaxText)), remove(api.MaxText)), api.OK},
		{join(1, 0), api.OK},
		{join(most, most), api.OK},
		{api.Frame{Kind: api.Join, Epoch: 1, Op: api.Op{}}, api.OK},
		{whole(1, ""), api.OK},
		{whole(most, long(api.MaxText)), api.OK},
		{api.Frame{Kind: api.Whole, Epoch: 1, Op: api.Op{}}, api.OK},

		{api.Frame{}, api.ErrKind},
		{api.Frame{Kind: 4, Epoch: 1}, api.ErrKind},
		{api.Frame{Kind: -1}, api.ErrKind},
		{api.Frame{Kind: math.MaxInt}, api.ErrKind},
		{api.Frame{Kind: math.MinInt, Heard: -1, Op: wrongSize, Text: "\xff"}, api.ErrKind},

		{api.Frame{Kind: api.Edit, Heard: -1, Op: wrongSize, Text: "\xff"}, api.ErrRange},
		{api.Frame{Kind: api.Edit, Epoch: most + 1, Op: wrongForm}, api.ErrRange},
		{api.Frame{Kind: api.Whole, Heard: most + 1}, api.ErrRange},
		{api.Frame{Kind: api.Join, Epoch: -1, Text: "x"}, api.ErrRange},

		{edit(0, wrongSize...), api.ErrSize},
		{edit(0, wrongRange...), api.ErrRange},
		{edit(0, wrongKind...), api.ErrKind},
		{edit(0, wrongForm...), api.ErrForm},
		{edit(0, make(api.Op, api.MaxParts+1)...), api.ErrSize},
		{api.Frame{Kind: api.Join, Op: wrongKind, Text: "\xff"}, api.ErrKind},
		{api.Frame{Kind: api.Whole, Epoch: 1, Op: wrongRange, Text: long(api.MaxText + 1)}, api.ErrRange},

		{whole(0, "\xff"), api.ErrForm},
		{whole(0, long(api.MaxText+1)), api.ErrSize},
		{whole(1, long(api.MaxText+1)), api.ErrSize},
		{whole(1, "a\xc3"), api.ErrForm},
		{api.Frame{Kind: api.Edit, Text: long(api.MaxText + 1)}, api.ErrSize},
		{api.Frame{Kind: api.Join, Text: long(api.MaxText + 1)}, api.ErrSize},

		{api.Frame{Kind: api.Edit, Epoch: 1}, api.ErrForm},
		{api.Frame{Kind: api.Edit, Text: "x"}, api.ErrForm},
		{api.Frame{Kind: api.Edit, Op: some, Epoch: most}, api.ErrForm},
		{join(0, 0), api.ErrForm},
		{join(0, 1), api.ErrForm},
		{api.Frame{Kind: api.Join, Epoch: 1, Op: some}, api.ErrForm},
		{api.Frame{Kind: api.Join, Epoch: 1, Text: "x"}, api.ErrForm},
		{whole(0, ""), api.ErrForm},
		{whole(0, "x"), api.ErrForm},
		{api.Frame{Kind: api.Whole, Epoch: 1, Op: some}, api.ErrForm},
		{api.Frame{Kind: api.Whole, Epoch: 1, Heard: 1}, api.ErrForm},
	} {
		if e := CheckFrame(c.f); e != c.want {
			t.Errorf("case %d: %v, want %v", i, e, c.want)
		}
	}
}

// P3.1: of all Kinds, and ahead of what is wrong with the form.
func TestCheckFrameNumbers(t *testing.T) {
	for _, n := range outside {
		for kind := api.Edit; kind <= api.Whole; kind++ {
			for _, f := range []api.Frame{{Kind: kind, Heard: n}, {Kind: kind, Epoch: n}, {Kind: kind, Heard: n, Epoch: 1}, {Kind: kind, Heard: 1, Epoch: n, Op: some, Text: "x"}} {
				if e := CheckFrame(f); e != api.ErrRange {
					t.Errorf("%v: %v", f, e)
				}
			}
		}
	}
}

// P3.2
func TestCheckPacket(t *testing.T) {
	for i, c := range []struct {
		p    api.Packet
		want api.Errno
	}{
		{bare(0, 0), api.OK},
		{bare(most, most), api.OK},
		{bare(0, 5), api.OK},
		{api.Packet{Bare: true, Frame: api.Frame{Op: api.Op{}}}, api.OK},
		{packet(1, 0, 1, edit(0)), api.OK},
		{packet(most, most, most, join(most, most)), api.OK},
		{packet(2, 1, 7, whole(1, "x")), api.OK},

		{api.Packet{Bare: true, Number: 1}, api.ErrForm},
		{api.Packet{Bare: true, Epoch: 1, Number: 1, Frame: join(1, 0)}, api.ErrForm},
		{api.Packet{Bare: true, Epoch: 1, Frame: join(1, 0)}, api.ErrForm},
		{api.Packet{Bare: true, Frame: api.Frame{Kind: api.Edit}}, api.ErrForm},
		{api.Packet{Bare: true, Frame: api.Frame{Kind: 9}}, api.ErrForm},
		{api.Packet{Bare: true, Frame: api.Frame{Heard: -1}}, api.ErrForm},
		{api.Packet{Bare: true, Frame: api.Frame{Epoch: 1}}, api.ErrForm},
		{api.Packet{Bare: true, Frame: api.Frame{Op: wrongSize}}, api.ErrForm},
		{api.Packet{Bare: true, Frame: api.Frame{Text: long(api.MaxText + 1)}}, api.ErrForm},

		{api.Packet{}, api.ErrForm},
		{packet(1, 0, 0, edit(0)), api.ErrForm},
		{packet(0, 0, 1, edit(0)), api.ErrForm},
		{packet(0, 0, 1, api.Frame{}), api.ErrForm},
		{packet(1, 0, 0, api.Frame{Kind: 9}), api.ErrForm},

		{packet(1, 0, 1, api.Frame{}), api.ErrKind},
		{packet(1, 0, 1, edit(-1)), api.ErrRange},
		{packet(1, 0, 1, edit(0, wrongSize...)), api.ErrSize},
		{packet(1, 0, 1, edit(0, wrongKind...)), api.ErrKind},
		{packet(1, 0, 1, whole(1, "\xff")), api.ErrForm},
		{packet(1, 0, 1, join(0, 0)), api.ErrForm},
	} {
		if e := CheckPacket(c.p); e != c.want {
			t.Errorf("case %d: %v: %v, want %v", i, c.p, e, c.want)
		}
	}
}

// P3.2: the numbers tell first.
func TestCheckPacketNumbers(t *testing.T) {
	for _, n := range outside {
		for _, f := range []api.Frame{{}, {Kind: 9}, edit(0), edit(0, wrongSize...)} {
			for _, b := range []bool{false, true} {
				for _, p := range []api.Packet{{Epoch: n, Bare: b, Frame: f}, {Number: n, Bare: b, Frame: f}, {Ack: n, Bare: b, Frame: f}, {Epoch: 1, Number: 1, Ack: n, Bare: b, Frame: f}} {
					if e := CheckPacket(p); e != api.ErrRange {
						t.Errorf("%v: %v", p, e)
					}
				}
			}
		}
	}
}

// P3.3
func TestCheckRecord(t *testing.T) {
	for i, c := range []struct {
		r    api.Record
		want api.Errno
	}{
		{api.Record{}, api.OK},
		{api.Record{Op: api.Op{}}, api.OK},
		{api.Record{Op: some}, api.OK},
		{api.Record{Epoch: 1}, api.OK},
		{api.Record{Epoch: most}, api.OK},
		{api.Record{Epoch: most, Op: api.Op{}}, api.OK},

		{api.Record{Epoch: -1}, api.ErrRange},
		{api.Record{Epoch: most + 1}, api.ErrRange},
		{api.Record{Epoch: math.MinInt, Op: some}, api.ErrRange},
		{api.Record{Epoch: math.MaxInt, Op: wrongSize}, api.ErrRange},

		{api.Record{Epoch: 1, Op: some}, api.ErrForm},
		{api.Record{Epoch: 1, Op: wrongSize}, api.ErrForm},
		{api.Record{Epoch: most, Op: wrongKind}, api.ErrForm},

		{api.Record{Op: wrongSize}, api.ErrSize},
		{api.Record{Op: wrongRange}, api.ErrRange},
		{api.Record{Op: wrongKind}, api.ErrKind},
		{api.Record{Op: wrongForm}, api.ErrForm},
		{api.Record{Op: api.Op{insert("\xff")}}, api.ErrForm},
	} {
		if e := CheckRecord(c.r); e != c.want {
			t.Errorf("case %d: %v, want %v", i, e, c.want)
		}
	}
}
