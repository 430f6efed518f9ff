package tape

import (
	"bytes"
	"fmt"
	"math"
	"slices"
	"strings"
	"testing"

	"wherry/api"
)

func keep(n int) api.Part      { return api.Part{Kind: api.Keep, N: n} }
func remove(n int) api.Part    { return api.Part{Kind: api.Delete, N: n} }
func insert(s string) api.Part { return api.Part{Kind: api.Insert, Text: s} }

func began(epoch int) api.Record    { return api.Record{Epoch: epoch} }
func done(l ...api.Part) api.Record { return api.Record{Op: l} }

// of bytes, the first so many synced.
func of(synced int, b ...byte) api.Tape { return api.Tape{Data: b, Synced: synced} }

// blank: so many bytes.
func blank(n int) api.Tape { return api.Tape{Data: make([]byte, n)} }

// told: a list without elements may be nil or not.
func told(l ...any) string { return fmt.Sprintf("%v", l) }

// same tape? (Those of MaxTape bytes are too long to be told.)
func same(a, b api.Tape) bool { return bytes.Equal(a.Data, b.Data) && a.Synced == b.Synced }

// asksAll: what the calls that are handed a tape answer; the other arguments are wrong if they can be.
func asksAll(t *testing.T, x api.Tape, wrong bool) []api.Errno {
	t.Helper()
	r, n := began(1), 0
	if wrong {
		r, n = began(-1), -1
	}
	a, ae := Append(x, r)
	b, be := Sync(x)
	c, ce := Crash(x, n)
	l, d, de := Recover(x)
	for i, e := range []api.Errno{ae, be, ce, de} {
		if e != api.OK && !same([]api.Tape{a, b, c, d}[i], api.Tape{}) || de != api.OK && len(l) > 0 {
			t.Errorf("call %d: with %v it is not all zero", i, e)
		}
	}
	return []api.Errno{ae, be, ce, de}
}

// P4.1
func TestTapesThatMayBe(t *testing.T) {
	for i, x := range []api.Tape{{}, {Data: []byte{}}, of(0, 9), of(1, 9), of(1, 9, 9), of(3, 9, 9, 9), blank(api.MaxTape - 4)} {
		if l := asksAll(t, x, false); slices.Max(l) != api.OK {
			t.Errorf("tape %d: %v", i, l)
		}
	}
	full := blank(api.MaxTape)
	for _, full.Synced = range []int{0, 1, api.MaxTape} {
		if l := asksAll(t, full, false); told(l) != told([]api.Errno{api.ErrFull, 0, 0, 0}) {
			t.Errorf("full, %d synced: %v", full.Synced, l)
		}
	}
}

// P4.1: ahead of all else, so whatever the other arguments are.
func TestTapesThatMayNotBe(t *testing.T) {
	long, allOfLong := blank(api.MaxTape+1), blank(api.MaxTape+1)
	allOfLong.Synced = api.MaxTape + 1
	for i, x := range []api.Tape{
		{Synced: 1}, {Synced: -1}, {Data: []byte{}, Synced: 1},
		of(4, 0, 0, 1), of(-1, 0, 0, 1, 5), of(5, 0, 0, 1, 5),
		of(math.MaxInt, 0, 0, 1, 5), of(math.MinInt, 0, 0, 1, 5),
		long, allOfLong, {Data: long.Data, Synced: -1},
	} {
		for _, wrong := range []bool{false, true} {
			if l := asksAll(t, x, wrong); slices.Min(l) != api.ErrState || slices.Max(l) != api.ErrState {
				t.Errorf("tape %d: %v", i, l)
			}
		}
	}
}

// P4.2: tapes, records, and the bytes behind the tapes'.
func TestAppend(t *testing.T) {
	hundredFifty, longest := strings.Repeat("世", 50), strings.Repeat("𝄞", api.MaxText)
	for i, c := range []struct {
		t    api.Tape
		r    api.Record
		want []byte
	}{
		{api.Tape{}, began(5), []byte{0, 0, 1, 5}},
		{api.Tape{}, api.Record{}, []byte{0, 0, 2, 0, 0}},
		{api.Tape{}, api.Record{Op: api.Op{}}, []byte{0, 0, 2, 0, 0}},
		{of(0, 0, 0, 1, 5), began(300), []byte{0, 0, 2, 172, 2}},
		{of(4, 0, 0, 1, 5), began(api.MaxNumber), []byte{0, 0, 3, 128, 128, 64}},
		{of(2, 0, 0, 1, 5), done(keep(1), insert("é"), remove(2)), []byte{0, 0, 10, 0, 3, 1, 1, 2, 2, 0xc3, 0xa9, 3, 2}},
		{of(1, 255, 255), done(remove(1)), []byte{0, 0, 4, 0, 1, 3, 1}},
		{api.Tape{}, done(insert(hundredFifty)), append([]byte{0, 0, 155, 0, 1, 2, 150, 1}, hundredFifty...)},
		{of(1, 7), done(insert(longest)), append([]byte{0, 62, 133, 0, 1, 2, 128, 125}, longest...)},
	} {
		x, e := Append(c.t, c.r)
		if want := slices.Concat(c.t.Data, c.want); e != api.OK || !same(x, of(c.t.Synced, want...)) {
			t.Errorf("case %d: %v %v, want %v", i, x, e, want)
		}
	}
}

// P4.2: what EncodeRecord refuses, ahead of a tape without room.
func TestAppendRefuses(t *testing.T) {
	for i, c := range []struct {
		r    api.Record
		want api.Errno
	}{
		{began(-1), api.ErrRange},
		{began(api.MaxNumber + 1), api.ErrRange},
		{api.Record{Epoch: 1, Op: api.Op{keep(1)}}, api.ErrForm},
		{done(keep(1), keep(1)), api.ErrForm},
		{done(insert("\xff")), api.ErrForm},
		{done(keep(0)), api.ErrRange},
		{done(api.Part{Kind: 4, N: 1}), api.ErrKind},
		{done(keep(api.MaxText), insert("x")), api.ErrSize},
		{api.Record{Op: make(api.Op, api.MaxParts+1)}, api.ErrSize},
	} {
		for _, x := range []api.Tape{{}, of(1, 0, 0, 1, 5), blank(api.MaxTape)} {
			if y, e := Append(x, c.r); e != c.want || !same(y, api.Tape{}) {
				t.Errorf("case %d: %v, want %v", i, e, c.want)
			}
		}
	}
}

// P4.2: there is room up to the last byte, and no more.
func TestAppendFull(t *testing.T) {
	for i, c := range []struct {
		there int
		r     api.Record
		want  api.Errno
	}{
		{api.MaxTape - 4, began(5), api.OK},
		{api.MaxTape - 4, began(300), api.ErrFull},
		{api.MaxTape - 3, began(5), api.ErrFull},
		{api.MaxTape, began(5), api.ErrFull},
		{api.MaxTape - 5, api.Record{}, api.OK},
		{api.MaxTape - 4, api.Record{}, api.ErrFull},
		{api.MaxTape - 1000, done(insert(strings.Repeat("a", 992))), api.OK},
		{api.MaxTape - 1000, done(insert(strings.Repeat("a", 993))), api.ErrFull},
	} {
		x, e := Append(blank(c.there), c.r)
		if e != c.want || e == api.OK && len(x.Data) != api.MaxTape || e != api.OK && !same(x, api.Tape{}) {
			t.Errorf("case %d: %v, %d bytes, want %v", i, e, len(x.Data), c.want)
		}
	}
}

// P4.3
func TestSync(t *testing.T) {
	for i, c := range []struct{ t, want api.Tape }{
		{api.Tape{}, api.Tape{}},
		{of(0, 1), of(1, 1)},
		{of(1, 1), of(1, 1)},
		{of(0, 1, 2, 3), of(3, 1, 2, 3)},
		{of(2, 1, 2, 3), of(3, 1, 2, 3)},
		{of(3, 1, 2, 3), of(3, 1, 2, 3)},
	} {
		if x, e := Sync(c.t); e != api.OK || !same(x, c.want) {
			t.Errorf("case %d: %v %v, want %v", i, x, e, c.want)
		}
	}
	if x, e := Sync(blank(api.MaxTape)); e != api.OK || len(x.Data) != api.MaxTape || x.Synced != api.MaxTape {
		t.Errorf("full: %v, %d synced of %d", e, x.Synced, len(x.Data))
	}
}

// P4.4
func TestCrash(t *testing.T) {
	for i, c := range []struct {
		t    api.Tape
		keep int
		want api.Tape
	}{
		{api.Tape{}, 0, api.Tape{}},
		{api.Tape{}, 5, api.Tape{}},
		{of(1, 1, 2, 3), 0, of(1, 1)},
		{of(1, 1, 2, 3), 1, of(2, 1, 2)},
		{of(1, 1, 2, 3), 2, of(3, 1, 2, 3)},
		{of(1, 1, 2, 3), 3, of(3, 1, 2, 3)},
		{of(1, 1, 2, 3), math.MaxInt, of(3, 1, 2, 3)},
		{of(0, 1, 2, 3), 0, api.Tape{}},
		{of(0, 1, 2, 3), 2, of(2, 1, 2)},
		{of(3, 1, 2, 3), 0, of(3, 1, 2, 3)},
		{of(3, 1, 2, 3), math.MaxInt, of(3, 1, 2, 3)},
	} {
		if x, e := Crash(c.t, c.keep); e != api.OK || !same(x, c.want) {
			t.Errorf("case %d: %v %v, want %v", i, x, e, c.want)
		}
	}
	for _, n := range []int{-1, math.MinInt} {
		if x, e := Crash(of(1, 1, 2, 3), n); e != api.ErrRange || !same(x, api.Tape{}) {
			t.Errorf("keep %d: %v %v", n, x, e)
		}
	}
}

// P4.5: bytes, the records, and how many of the bytes are theirs.
func TestRecover(t *testing.T) {
	for _, c := range []struct {
		b    []byte
		want []api.Record
		n    int
	}{
		{nil, nil, 0},
		{[]byte{0}, nil, 0},
		{[]byte{0, 0}, nil, 0},
		{[]byte{0, 0, 0}, nil, 0}, // a length of 0: DecodeRecord does not take nothing
		{[]byte{0, 0, 1}, nil, 0},
		{[]byte{0, 0, 1, 5}, []api.Record{began(5)}, 4},
		{[]byte{0, 0, 1, 5, 0}, []api.Record{began(5)}, 4},
		{[]byte{0, 0, 1, 5, 0, 0, 2, 0, 0}, []api.Record{began(5), {}}, 9},
		{[]byte{0, 0, 2, 0, 0, 0, 0, 5, 0, 1, 2, 1, 'a', 9}, []api.Record{{}, done(insert("a"))}, 13},
		{[]byte{0, 0, 2, 5, 5}, nil, 0},                                      // one byte too many in it
		{[]byte{0, 0, 1, 128, 1}, nil, 0},                                    // one too few, the next one is not its own
		{[]byte{0, 0, 1, 5, 0, 0, 0, 0, 0, 1, 6}, []api.Record{began(5)}, 4}, // what is whole behind is not looked for
		{[]byte{0, 0, 1, 5, 0, 0, 2, 128, 0, 0, 0, 1, 6}, []api.Record{began(5)}, 4},
		{[]byte{0, 0, 4, 0, 1, 1, 0}, nil, 0}, // a Keep of nothing may not be
		{[]byte{0, 0, 4, 0, 1, 4, 1}, nil, 0}, // nor a part of no kind
		{[]byte{0, 0, 4, 128, 128, 128, 1}, nil, 0},
		{[]byte{1, 0, 0, 5}, nil, 0},
		{[]byte{0, 1, 0, 5}, nil, 0},
		{[]byte{255, 255, 255, 5}, nil, 0},
	} {
		for synced := range len(c.b) + 1 {
			l, x, e := Recover(of(synced, c.b...))
			if e != api.OK || told(l) != told(c.want) || !same(x, of(min(synced, c.n), c.b[:c.n]...)) {
				t.Errorf("%v, %d synced: %v %v %v", c.b, synced, l, x, e)
			}
		}
	}
}

// P4.5: a length of three bytes, the highest first: more than DecodeRecord takes, though all the bytes are there.
func TestRecoverLengths(t *testing.T) {
	s := strings.Repeat("世", 100)
	long := append([]byte{0, 1, 49, 0, 1, 2, 172, 2}, s...)
	for _, c := range []struct {
		b     []byte
		whole int
	}{
		{long, 1},
		{append([]byte{0, 195, 80}, make([]byte, api.MaxBytes)...), 0},
		{append([]byte{0, 195, 81}, make([]byte, api.MaxBytes+1)...), 0},
		{append([]byte{1, 0, 0}, make([]byte, 1<<16)...), 0},
	} {
		l, x, e := Recover(api.Tape{Data: c.b})
		if e != api.OK || len(l) != c.whole || !same(x, of(0, c.b[:c.whole*len(c.b)]...)) {
			t.Errorf("%d bytes: %d records, %d bytes, %v", len(c.b), len(l), len(x.Data), e)
		}
	}
	if l, _, _ := Recover(api.Tape{Data: long}); told(l) != told([]api.Record{done(insert(s))}) {
		t.Errorf("%v", l)
	}
}

// P4.5: a full tape of the shortest records.
func TestRecoverFull(t *testing.T) {
	data := bytes.Repeat([]byte{0, 0, 1, 5}, api.MaxTape/4)
	l, x, e := Recover(api.Tape{Data: data, Synced: 3})
	if e != api.OK || len(l) != api.MaxTape/4 || !same(x, api.Tape{Data: data, Synced: 3}) {
		t.Errorf("%d records, %d bytes, %d synced, %v", len(l), len(x.Data), x.Synced, e)
	}
}

// P4.6
func TestReplay(t *testing.T) {
	longest := strings.Repeat("é", api.MaxText)
	for i, c := range []struct {
		l     []api.Record
		text  string
		epoch int
		e     api.Errno
	}{
		{nil, "", 0, api.OK},
		{[]api.Record{}, "", 0, api.OK},
		{[]api.Record{{}}, "", 0, api.OK},
		{[]api.Record{{}, {}}, "", 0, api.OK},
		{[]api.Record{began(3)}, "", 3, api.OK},
		{[]api.Record{began(3), done(insert("a"))}, "a", 3, api.OK},
		{[]api.Record{done(insert("a")), began(3)}, "a", 3, api.OK},
		{[]api.Record{began(7), began(9), began(8)}, "", 9, api.OK},
		{[]api.Record{began(api.MaxNumber), began(1)}, "", api.MaxNumber, api.OK},
		{[]api.Record{done(insert("é世")), began(1), done(keep(1), insert("x"), remove(1)), began(2), done(keep(2), insert("y"))}, "éxy", 2, api.OK},
		{[]api.Record{done(insert(longest)), done(insert("𝄞"), remove(api.MaxText))}, "𝄞", 0, api.OK},
		{[]api.Record{done(insert("a")), done(remove(1)), {}}, "", 0, api.OK},

		{[]api.Record{done(keep(1))}, "", 0, api.ErrMatch},
		{[]api.Record{began(3), done(insert("a")), {}}, "", 0, api.ErrMatch},
		{[]api.Record{began(3), done(insert("a")), done(keep(2)), began(-1)}, "", 0, api.ErrMatch},
		{[]api.Record{done(insert(longest)), done(insert("a"))}, "", 0, api.ErrMatch},
		{[]api.Record{began(3), began(-1), done(keep(2))}, "", 0, api.ErrRange},
		{[]api.Record{began(api.MaxNumber + 1)}, "", 0, api.ErrRange},
		{[]api.Record{{Epoch: 1, Op: api.Op{insert("a")}}}, "", 0, api.ErrForm},
		{[]api.Record{{Epoch: -1, Op: api.Op{{Kind: 4}}}}, "", 0, api.ErrRange},
		{[]api.Record{done(insert("a")), done(keep(1), keep(1))}, "", 0, api.ErrForm},
		{[]api.Record{done(insert("a")), done(insert("\xff"))}, "", 0, api.ErrForm},
		{[]api.Record{done(api.Part{Kind: 4, N: 1})}, "", 0, api.ErrKind},
		{[]api.Record{done(insert(longest), keep(1))}, "", 0, api.ErrSize},
	} {
		s, epoch, e := Replay(c.l)
		if s != c.text || epoch != c.epoch || e != c.e {
			t.Errorf("case %d: %q %d %v, want %q %d %v", i, s, epoch, e, c.text, c.epoch, c.e)
		}
	}
}
