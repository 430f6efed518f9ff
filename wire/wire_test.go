package wire

import (
	"bytes"
	"fmt"
	"strings"
	"testing"

	"wherry/api"
)

// told: a list without elements may be nil or not.
func told(l ...any) string { return fmt.Sprintf("%v", l) }

// P3.4: numbers, as the Epoch of a record.
func TestNumbers(t *testing.T) {
	for _, c := range []struct {
		n    int
		want []byte
	}{
		{1, []byte{1}},
		{127, []byte{127}},
		{128, []byte{128, 1}},
		{129, []byte{129, 1}},
		{300, []byte{172, 2}},
		{16383, []byte{255, 127}},
		{16384, []byte{128, 128, 1}},
		{most - 1, []byte{255, 255, 63}},
		{most, []byte{128, 128, 64}},
	} {
		b, e := EncodeRecord(api.Record{Epoch: c.n})
		if e != api.OK || !bytes.Equal(b, c.want) {
			t.Errorf("%d: %v %v, want %v", c.n, b, e, c.want)
		}
		r, e := DecodeRecord(c.want)
		if told(r, e) != told(api.Record{Epoch: c.n}, api.OK) {
			t.Errorf("%v: %v %v", c.want, r, e)
		}
	}
}

// hundred and fifty bytes, so that their number has two digits.
var hundredFifty = strings.Repeat("世", 50)

// P3.4, P3.5, P3.7: packets, and their bytes.
var packets = []struct {
	p api.Packet
	b []byte
}{
	{bare(0, 0), []byte{0, 0, 0}},
	{bare(0, 4096), []byte{0, 128, 32, 0}},
	{bare(300, 2), []byte{172, 2, 2, 0}},
	{bare(most, most), []byte{128, 128, 64, 128, 128, 64, 0}},
	{packet(5, 6, 7, join(8, 9)), []byte{5, 6, 7, 2, 8, 9}},
	{packet(5, 0, 200, join(128, 0)), []byte{5, 0, 200, 1, 2, 128, 1, 0}},
	{packet(5, 6, 7, whole(8, "")), []byte{5, 6, 7, 3, 8, 0}},
	{packet(1, 0, 1, whole(1, "a")), []byte{1, 0, 1, 3, 1, 1, 'a'}},
	{packet(5, 6, 7, whole(8, "é世\x00𝄞")), append([]byte{5, 6, 7, 3, 8, 10}, "é世\x00𝄞"...)},
	{packet(5, 6, 7, whole(8, hundredFifty)), append([]byte{5, 6, 7, 3, 8, 150, 1}, hundredFifty...)},
	{packet(5, 6, 7, edit(0)), []byte{5, 6, 7, 1, 0, 0}},
	{packet(5, 6, 7, edit(8, keep(9))), []byte{5, 6, 7, 1, 8, 1, 1, 9}},
	{packet(5, 6, 7, edit(8, insert("é"), remove(130), keep(4))), []byte{5, 6, 7, 1, 8, 3, 2, 2, 0xc3, 0xa9, 3, 130, 1, 1, 4}},
	{packet(5, 6, 7, edit(most, remove(4000))), []byte{5, 6, 7, 1, 128, 128, 64, 1, 3, 160, 31}},
}

// P3.4, P3.6, P3.7: records, and their bytes.
var records = []struct {
	r api.Record
	b []byte
}{
	{api.Record{Epoch: 1}, []byte{1}},
	{api.Record{Epoch: 4096}, []byte{128, 32}},
	{api.Record{}, []byte{0, 0}},
	{api.Record{Op: api.Op{insert("a"), keep(2)}}, []byte{0, 2, 2, 1, 'a', 1, 2}},
	{api.Record{Op: api.Op{keep(1), insert("𝄞"), remove(128)}}, append(append([]byte{0, 3, 1, 1, 2, 4}, "𝄞"...), 3, 128, 1)},
	{api.Record{Op: api.Op{insert(hundredFifty)}}, append([]byte{0, 1, 2, 150, 1}, hundredFifty...)},
}

// P3.5, P3.7
func TestPackets(t *testing.T) {
	for i, c := range packets {
		if b, e := EncodePacket(c.p); e != api.OK || !bytes.Equal(b, c.b) {
			t.Errorf("case %d: %v: %v %v, want %v", i, c.p, b, e, c.b)
		}
		if p, e := DecodePacket(c.b); told(p, e) != told(c.p, api.OK) {
			t.Errorf("case %d: %v: %v %v, want %v", i, c.b, p, e, c.p)
		}
		cutAndLengthened(t, c.b, func(b []byte) string { return told(DecodePacket(b)) }, api.Packet{})
	}
}

// P3.6, P3.7
func TestRecords(t *testing.T) {
	for i, c := range records {
		if b, e := EncodeRecord(c.r); e != api.OK || !bytes.Equal(b, c.b) {
			t.Errorf("case %d: %v: %v %v, want %v", i, c.r, b, e, c.b)
		}
		if r, e := DecodeRecord(c.b); told(r, e) != told(c.r, api.OK) {
			t.Errorf("case %d: %v: %v %v, want %v", i, c.b, r, e, c.r)
		}
		cutAndLengthened(t, c.b, func(b []byte) string { return told(DecodeRecord(b)) }, api.Record{})
	}
}

// cutAndLengthened: bytes that are read whole end too early, cut anywhere, and are not in form with anything behind them.
func cutAndLengthened(t *testing.T, b []byte, decode func([]byte) string, none any) {
	t.Helper()
	for n := range b {
		if got := decode(b[:n]); got != told(none, api.ErrShort) {
			t.Errorf("%v: %s", b[:n], got)
		}
	}
	for _, more := range [][]byte{{0}, {128}, {1, 2, 3}} {
		l := append(append([]byte(nil), b...), more...)
		if got := decode(l); got != told(none, api.ErrForm) {
			t.Errorf("%v: %s", l, got)
		}
	}
}

// P3.5: what CheckPacket refuses.
func TestEncodePacketRefuses(t *testing.T) {
	for i, c := range []struct {
		p    api.Packet
		want api.Errno
	}{
		{api.Packet{}, api.ErrForm},
		{bare(-1, 0), api.ErrRange},
		{bare(0, most+1), api.ErrRange},
		{api.Packet{Bare: true, Number: 1}, api.ErrForm},
		{api.Packet{Bare: true, Frame: join(1, 0)}, api.ErrForm},
		{packet(1, 0, most+1, edit(0)), api.ErrRange},
		{packet(1, 0, 1, api.Frame{Kind: 4, Epoch: 1}), api.ErrKind},
		{packet(1, 0, 1, join(0, 0)), api.ErrForm},
		{packet(1, 0, 1, edit(0, wrongSize...)), api.ErrSize},
		{packet(1, 0, 1, edit(0, wrongRange...)), api.ErrRange},
		{packet(1, 0, 1, whole(1, "\xff")), api.ErrForm},
	} {
		if b, e := EncodePacket(c.p); len(b) > 0 || e != c.want {
			t.Errorf("case %d: %v: %v %v, want %v", i, c.p, b, e, c.want)
		}
	}
}

// P3.6: what CheckRecord refuses.
func TestEncodeRecordRefuses(t *testing.T) {
	for i, c := range []struct {
		r    api.Record
		want api.Errno
	}{
		{api.Record{Epoch: -1}, api.ErrRange},
		{api.Record{Epoch: most + 1}, api.ErrRange},
		{api.Record{Epoch: 1, Op: some}, api.ErrForm},
		{api.Record{Op: wrongSize}, api.ErrSize},
		{api.Record{Op: wrongKind}, api.ErrKind},
	} {
		if b, e := EncodeRecord(c.r); len(b) > 0 || e != c.want {
			t.Errorf("case %d: %v: %v %v, want %v", i, c.r, b, e, c.want)
		}
	}
}

// P3.7: what is refused, and which refusal comes first.
func TestDecodePacketRefuses(t *testing.T) {
	for i, c := range []struct {
		b    []byte
		want api.Errno
	}{
		{nil, api.ErrShort},
		{[]byte{}, api.ErrShort},
		// A number's last byte.
		{[]byte{1, 0, 128, 0}, api.ErrForm},
		{[]byte{128, 0}, api.ErrForm},
		{[]byte{129, 128, 0}, api.ErrForm},
		{[]byte{255, 255, 255, 0}, api.ErrForm},
		{[]byte{128}, api.ErrShort},
		{[]byte{128, 128, 128}, api.ErrShort},
		// A number's fourth byte.
		{[]byte{128, 128, 128, 128}, api.ErrForm},
		{[]byte{255, 255, 255, 255, 1}, api.ErrForm},
		{[]byte{255, 255, 255, 127}, api.ErrShort},
		{[]byte{255, 255, 255, 127, 0, 0}, api.ErrRange},
		{[]byte{0, 255, 255, 255, 127, 0}, api.ErrRange},
		{[]byte{0, 0, 255, 255, 255, 127, 2, 1, 0}, api.ErrRange},
		{[]byte{129, 128, 64, 0, 0}, api.ErrRange},
		// The first thing tells: what is not in form, and then ends.
		{[]byte{1, 1, 1, 128, 0}, api.ErrForm},
		{[]byte{1, 1, 1, 1, 1, 128, 0}, api.ErrForm},
		{[]byte{1, 1, 1, 1, 1, 2, 1, 128, 0}, api.ErrForm},
		{[]byte{1, 1, 1, 1, 1, 2, 1, 5, 3, 128, 0}, api.ErrForm},
		{[]byte{1, 1, 1, 3, 1, 130, 0}, api.ErrForm},
		{[]byte{1, 1, 1, 1, 1, 1, 2, 131, 0, 'a'}, api.ErrForm},
		// What ends, with something ahead of it that may not be.
		{[]byte{129, 128, 64, 0}, api.ErrShort},
		{[]byte{0, 0, 1}, api.ErrShort},
		{[]byte{1, 0, 1, 9}, api.ErrShort},
		{[]byte{1, 0, 1, 9, 1}, api.ErrShort},
		{[]byte{1, 0, 1, 1, 0, 2, 9, 1}, api.ErrShort},
		{[]byte{1, 0, 1, 1, 0, 1, 9}, api.ErrShort},
		// Lengths that are told too great.
		{[]byte{1, 0, 1, 3, 1, 2, 'a'}, api.ErrShort},
		{[]byte{1, 0, 1, 3, 1, 255, 255, 255, 127, 'a'}, api.ErrShort},
		{[]byte{1, 0, 1, 1, 0, 255, 255, 255, 127, 1, 1}, api.ErrShort},
		{[]byte{1, 0, 1, 1, 0, 1, 2, 255, 255, 255, 127}, api.ErrShort},
		// More bytes come ahead of what the Check refuses.
		{[]byte{0, 0, 0, 0}, api.ErrForm},
		{[]byte{129, 128, 64, 0, 0, 0}, api.ErrForm},
		{[]byte{1, 0, 1, 9, 1, 0, 0}, api.ErrForm},
		{[]byte{1, 0, 1, 1, 0, 1, 9, 1, 0}, api.ErrForm},
		// What the Check refuses.
		{[]byte{0, 0, 1, 2, 1, 0}, api.ErrForm},
		{[]byte{1, 0, 1, 2, 0, 0}, api.ErrForm},
		{[]byte{1, 0, 1, 3, 0, 0}, api.ErrForm},
		{[]byte{1, 0, 1, 3, 1, 1, 0xff}, api.ErrForm},
		{[]byte{1, 0, 1, 2, 129, 128, 64, 0}, api.ErrRange},
		{[]byte{1, 0, 1, 1, 129, 128, 64, 0}, api.ErrRange},
		{[]byte{1, 0, 1, 1, 0, 1, 1, 0}, api.ErrRange},
		{[]byte{1, 0, 1, 1, 0, 1, 3, 161, 31}, api.ErrRange},
		{[]byte{1, 0, 1, 1, 0, 2, 1, 160, 31, 2, 1, 'a'}, api.ErrSize},
		{[]byte{1, 0, 1, 1, 0, 1, 2, 0}, api.ErrForm},
		{[]byte{1, 0, 1, 1, 0, 2, 3, 1, 2, 1, 'a'}, api.ErrForm},
		{[]byte{1, 0, 1, 1, 0, 2, 1, 1, 1, 1}, api.ErrForm},
		// A frame of no Kind is read as a Join is, a part of no Kind as a Keep.
		{[]byte{1, 0, 1, 0, 1, 0}, api.ErrKind},
		{[]byte{1, 0, 1, 4, 0, 0}, api.ErrKind},
		{[]byte{1, 0, 1, 255, 255, 255, 127, 255, 127, 129, 1}, api.ErrKind},
		{[]byte{1, 0, 1, 1, 0, 1, 0, 1}, api.ErrKind},
		{[]byte{1, 0, 1, 1, 0, 1, 4, 0}, api.ErrKind},
		{[]byte{1, 0, 1, 1, 0, 2, 255, 255, 255, 127, 255, 127, 1, 1}, api.ErrKind},
	} {
		if p, e := DecodePacket(c.b); told(p, e) != told(api.Packet{}, c.want) {
			t.Errorf("case %d: %v: %v %v, want %v", i, c.b, p, e, c.want)
		}
	}
}

// P3.7: what is refused, and which refusal comes first.
func TestDecodeRecordRefuses(t *testing.T) {
	for i, c := range []struct {
		b    []byte
		want api.Errno
	}{
		{nil, api.ErrShort},
		{[]byte{0}, api.ErrShort},
		{[]byte{128}, api.ErrShort},
		{[]byte{128, 0}, api.ErrForm},
		{[]byte{255, 255, 255, 255}, api.ErrForm},
		{[]byte{0, 129, 0}, api.ErrForm},
		{[]byte{255, 255, 255, 127}, api.ErrRange},
		{[]byte{129, 128, 64}, api.ErrRange},
		{[]byte{129, 128, 64, 0}, api.ErrForm},
		{[]byte{1, 0}, api.ErrForm},
		{[]byte{1, 1, 1, 1}, api.ErrForm},
		{[]byte{0, 0, 0}, api.ErrForm},
		{[]byte{0, 1, 9}, api.ErrShort},
		{[]byte{0, 1, 9, 1}, api.ErrKind},
		{[]byte{0, 1, 9, 1, 0}, api.ErrForm},
		{[]byte{0, 1, 1, 0}, api.ErrRange},
		{[]byte{0, 1, 2, 1, 0xff}, api.ErrForm},
		{[]byte{0, 1, 2, 2, 'a'}, api.ErrShort},
		{[]byte{0, 2, 1, 1, 1, 1}, api.ErrForm},
		{[]byte{0, 255, 255, 255, 127}, api.ErrShort},
	} {
		if r, e := DecodeRecord(c.b); told(r, e) != told(api.Record{}, c.want) {
			t.Errorf("case %d: %v: %v %v, want %v", i, c.b, r, e, c.want)
		}
	}
}

// P3.7: the number of the bytes tells ahead of all else.
func TestMaxBytes(t *testing.T) {
	for _, c := range []struct {
		fill byte
		n    int
		want api.Errno
	}{
		{0, api.MaxBytes, api.ErrForm},
		{0, api.MaxBytes + 1, api.ErrSize},
		{128, api.MaxBytes + 1, api.ErrSize},
		{1, 10 * api.MaxBytes, api.ErrSize},
	} {
		b := bytes.Repeat([]byte{c.fill}, c.n)
		if p, e := DecodePacket(b); told(p, e) != told(api.Packet{}, c.want) {
			t.Errorf("%d times %d: %v, want %v", c.n, c.fill, e, c.want)
		}
		if r, e := DecodeRecord(b); told(r, e) != told(api.Record{}, c.want) {
			t.Errorf("%d times %d: %v, want %v", c.n, c.fill, e, c.want)
		}
	}
}

// P3.7: more parts than may be are read all the same, and then refused.
func TestTooManyParts(t *testing.T) {
	const n = api.MaxParts + 1
	parts := bytes.Repeat([]byte{9, 1}, n)
	b := append([]byte{0, n%128 + 128, n / 128}, parts...)
	if r, e := DecodeRecord(b); told(r, e) != told(api.Record{}, api.ErrSize) {
		t.Errorf("%v", e)
	}
	if r, e := DecodeRecord(b[:len(b)-1]); told(r, e) != told(api.Record{}, api.ErrShort) {
		t.Errorf("%v", e)
	}
	if r, e := DecodeRecord(append(b, 0)); told(r, e) != told(api.Record{}, api.ErrForm) {
		t.Errorf("%v", e)
	}
}
