package tape

import (
	"bytes"
	"math"
	"math/rand"
	"slices"
	"testing"
	"unicode/utf8"

	"wherry/api"
	"wherry/text"
	"wherry/wire"
)

// drawnOp of a text of n runes: something is inserted or deleted between what is kept, or (n is 0) nothing is done.
func drawnOp(r *rand.Rand, n int) api.Op {
	ahead := r.Intn(n + 1)
	gone := r.Intn(n - ahead + 1)
	var o api.Op
	if ahead > 0 {
		o = append(o, keep(ahead))
	}
	if n > 0 && gone == 0 || r.Intn(3) > 0 {
		o = append(o, insert([]string{"a", "é世", "𝄞bcd"}[r.Intn(3)]))
	}
	if gone > 0 {
		o = append(o, remove(gone))
	}
	if behind := n - ahead - gone; behind > 0 {
		o = append(o, keep(behind))
	}
	return o
}

// drawnRecords: their operations fit behind one another; and the text and the epoch behind them.
func drawnRecords(t *testing.T, r *rand.Rand, n int) ([]api.Record, string, int) {
	t.Helper()
	var l []api.Record
	s, epoch := "", 0
	for range n {
		if r.Intn(3) == 0 {
			l = append(l, began(1+r.Intn(300)))
			epoch = max(epoch, l[len(l)-1].Epoch)
			continue
		}
		o := drawnOp(r, utf8.RuneCountInString(s))
		behind, e := text.Apply(s, o)
		if e != api.OK {
			t.Fatalf("%q %v: %v", s, o, e)
		}
		l, s = append(l, api.Record{Op: o}), behind
	}
	return l, s, epoch
}

// written: the tape with these records behind what is there.
func written(t *testing.T, x api.Tape, l []api.Record) api.Tape {
	t.Helper()
	for _, r := range l {
		y, e := Append(x, r)
		if e != api.OK {
			t.Fatalf("%v: %v", r, e)
		}
		x = y
	}
	return x
}

// P4.2, P4.5, P4.6: what is appended is recovered, and replayed.
func TestThereAndBack(t *testing.T) {
	r := rand.New(rand.NewSource(4))
	for range 500 {
		want, s, epoch := drawnRecords(t, r, r.Intn(12))
		x := written(t, api.Tape{}, want)
		l, y, e := Recover(x)
		if e != api.OK || told(l) != told(want) || !same(x, y) {
			t.Fatalf("%v: %v %v", want, l, e)
		}
		if got, most, e := Replay(l); got != s || most != epoch || e != api.OK {
			t.Fatalf("%v: %q %d %v, want %q %d", want, got, most, e, s, epoch)
		}
	}
}

// P4.2 to P4.5: what was synced is recovered behind every crash, and of the rest what stands whole; what is appended behind that is recovered, too.
func TestSyncedIsRecoveredBehindEveryCrash(t *testing.T) {
	r := rand.New(rand.NewSource(44))
	for range 60 {
		all, _, _ := drawnRecords(t, r, 8)
		synced := r.Intn(len(all) + 1)
		x, _ := Sync(written(t, api.Tape{}, all[:synced]))
		safe := len(x.Data)
		x = written(t, x, all[synced:])
		if x.Synced != safe {
			t.Fatalf("%d synced, %d were", x.Synced, safe)
		}
		for n := range len(x.Data) - safe + 2 {
			crashed, _ := Crash(x, n)
			l, y, e := Recover(crashed)
			if e != api.OK || len(l) < synced || told(l) != told(all[:len(l)]) || y.Synced != len(y.Data) {
				t.Fatalf("%v, %d synced, %d kept: %v %v %v", all, synced, n, l, y, e)
			}
			if !same(y, of(len(y.Data), written(t, api.Tape{}, l).Data...)) {
				t.Fatalf("%v, %d synced, %d kept: %v", all, synced, n, y)
			}
			again, _, _ := Recover(written(t, y, []api.Record{began(77)}))
			if told(again) != told(append(l, began(77))) {
				t.Fatalf("%v, %d synced, %d kept: behind it %v", all, synced, n, again)
			}
		}
	}
}

// wholeOnes, slowly and plainly: as many records as there are, each taken off the beginning of the bytes.
func wholeOnes(b []byte) ([]api.Record, int) {
	if len(b) < 3 {
		return nil, 0
	}
	n := int(b[0])*65536 + int(b[1])*256 + int(b[2])
	if n > len(b)-3 {
		return nil, 0
	}
	r, e := wire.DecodeRecord(slices.Clone(b[3 : 3+n]))
	if e != api.OK {
		return nil, 0
	}
	l, more := wholeOnes(b[3+n:])
	return append([]api.Record{r}, l...), 3 + n + more
}

// spoiled: one byte changed, left out, or put in.
func spoiled(r *rand.Rand, b []byte) []byte {
	i, x := r.Intn(len(b)+1), []byte{0, 1, 2, 3, 4, 5, 128, 255}[r.Intn(8)]
	out := append(slices.Clone(b[:i]), x)
	switch {
	case i == len(b) || r.Intn(3) == 0:
		return append(out, b[i:]...)
	case r.Intn(2) == 0:
		return append(out, b[i+1:]...)
	default:
		return append(out[:i], b[i+1:]...)
	}
}

// P4.5: whatever the bytes are.
func TestRecoverSpoiled(t *testing.T) {
	r := rand.New(rand.NewSource(5))
	cutShort := 0
	for range 20000 {
		l, _, _ := drawnRecords(t, r, r.Intn(5))
		b := written(t, api.Tape{}, l).Data
		for range r.Intn(3) {
			b = spoiled(r, b)
		}
		x := of(r.Intn(len(b)+1), b...)
		want, n := wholeOnes(b)
		got, y, e := Recover(x)
		if e != api.OK || told(got) != told(want) || !same(y, of(min(x.Synced, n), b[:n]...)) {
			t.Fatalf("%v: %v %v %v, want %v", x, got, y, e, want)
		}
		if n < len(b) {
			cutShort++
		}
	}
	if cutShort < 2000 {
		t.Errorf("only %d had something behind", cutShort)
	}
}

// roomy: the same tape, with something in its spare room.
func roomy(x api.Tape) api.Tape {
	return api.Tape{Data: append(slices.Clone(x.Data), 77, 78, 79, 80, 81, 82)[:len(x.Data)], Synced: x.Synced}
}

// scribble over the bytes and their spare room.
func scribble(x api.Tape) {
	b := x.Data[:cap(x.Data)]
	for i := range b {
		b[i] = 255
	}
}

// scribbleRecords, their operations and the spare room of all of these.
func scribbleRecords(l []api.Record) {
	l = l[:cap(l)]
	for i := range l {
		o := l[i].Op[:cap(l[i].Op)]
		for k := range o {
			o[k] = api.Part{Kind: -1, N: -1, Text: "scribble"}
		}
		l[i].Epoch = -1
	}
}

// tapesOf: what each call answers of a tape.
func tapesOf(x api.Tape, r api.Record) []api.Tape {
	a, _ := Append(x, r)
	b, _ := Sync(x)
	c, _ := Crash(x, 3)
	_, d, _ := Recover(x)
	return []api.Tape{a, b, c, d}
}

// What is handed in is not changed, its spare room neither, and no answer shares memory with it or with another answer.
func TestTapesShareNothing(t *testing.T) {
	r := done(keep(1), insert("é"), remove(2))
	for _, x := range []api.Tape{{}, of(0, 0, 0, 1, 5), of(2, 0, 0, 1, 5, 0, 0, 2, 0, 0, 9, 9), of(3, 0, 0, 1, 5)} {
		x = roomy(x)
		all := slices.Clone(x.Data[:cap(x.Data)])
		first, second := tapesOf(x, r), tapesOf(x, r)
		was := told(second)
		for _, y := range first {
			scribble(y)
		}
		if !bytes.Equal(x.Data[:cap(x.Data)], all) {
			t.Errorf("%v became %v", all, x.Data[:cap(x.Data)])
		}
		scribble(x)
		if told(second) != was {
			t.Errorf("%s became %s", was, told(second))
		}
	}
}

// The records that are recovered share nothing with the tape, with one another or with another answer.
func TestRecordsShareNothing(t *testing.T) {
	want := []api.Record{done(insert("é"), remove(2)), began(5), done(keep(1)), done(keep(1), insert("b"))}
	x := roomy(written(t, api.Tape{}, want))
	a, _, _ := Recover(x)
	b, _, _ := Recover(x)
	scribbleRecords(a)
	scribble(x)
	if told(b) != told(want) {
		t.Errorf("%v, want %v", b, want)
	}
	for i := range b {
		scribbleRecords(b[i : i+1 : i+1])
		if told(b[i+1:]) != told(want[i+1:]) {
			t.Errorf("%d shares with %v", i, b[i+1:])
		}
	}
}

// Records that are handed in are not changed, their spare room neither.
func TestRecordsAreNotChanged(t *testing.T) {
	spare := api.Op{insert("a"), keep(1), keep(77)}
	l := []api.Record{done(insert("b")), {Op: spare[:2]}, began(9), began(-7)}[:3]
	was := told(l[:4], spare)
	Append(of(0, 1), l[1])
	Append(of(-1, 1), l[1])
	if s, epoch, e := Replay(l); s != "ab" || epoch != 9 || e != api.OK {
		t.Errorf("%q %d %v", s, epoch, e)
	}
	if told(l[:4], spare) != was {
		t.Errorf("%s became %s", was, told(l[:4], spare))
	}
}

// Hard inputs: every call ends, and none panics; with an error all else is zero.
func TestEverythingIsAnswered(t *testing.T) {
	numbers := []int{math.MinInt, -1, 0, 1, 4, api.MaxTape, api.MaxTape + 1, math.MaxInt}
	ops := []api.Op{nil, {}, {keep(1)}, {keep(math.MaxInt), remove(math.MaxInt)}, {insert("\xff")}, {{}}, make(api.Op, api.MaxParts+1)}
	for _, data := range [][]byte{nil, {}, {0}, {0, 0, 1, 5}, {255, 255, 255, 255}, bytes.Repeat([]byte{0}, 1000)} {
		for _, synced := range numbers {
			x := api.Tape{Data: data, Synced: synced}
			for _, n := range numbers {
				if y, e := Crash(x, n); e != api.OK && !same(y, api.Tape{}) {
					t.Errorf("%v %d: %v %v", x, n, y, e)
				}
				for _, o := range ops {
					answered(t, x, api.Record{Epoch: n, Op: o})
				}
			}
		}
	}
}

// answered: with an error there is nothing else.
func answered(t *testing.T, x api.Tape, r api.Record) {
	t.Helper()
	if y, e := Append(x, r); e != api.OK && !same(y, api.Tape{}) {
		t.Errorf("%v %v: %v %v", x, r, y, e)
	}
	if s, epoch, e := Replay([]api.Record{began(3), r}); e != api.OK && (s != "" || epoch != 0) {
		t.Errorf("%v: %q %d %v", r, s, epoch, e)
	}
}
