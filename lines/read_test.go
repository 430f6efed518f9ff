package lines

import (
	"strings"
	"testing"

	"wherry/api"
)

// P7.3: what is shown is read as it was.
func TestReadWhatIsShown(t *testing.T) {
	for i, c := range shown {
		if l, at, e := Read(tree, c.s); told(l) != told(c.l) || at != 0 || e != api.OK {
			t.Errorf("case %d: %v %d %v, want %v", i, l, at, e, c.l)
		}
	}
	for i, a := range goodActs() {
		l := []api.Act{ticking(), a, a}
		s, _, e := Show(tree, l)
		if back, at, f := Read(tree, s); e != api.OK || told(back) != told(l) || at != 0 || f != api.OK {
			t.Errorf("act %d: %v, %d acts, %d %v", i, e, len(back), at, f)
		}
	}
}

// refusedLine: alone, and behind two others, and ahead of what is wrong, too, it is refused so.
func refusedLine(t *testing.T, line string, want api.Errno) {
	t.Helper()
	for ahead := range 3 {
		s := strings.Repeat("undo 0\n", ahead) + line
		for _, behind := range []string{"", "tick\n", "undo 9\n", "tack\n", "tick"} {
			if behind != "" && !strings.HasSuffix(line, "\n") {
				continue
			}
			if l, at, e := Read(tree, s+behind); len(l) != 0 || at != ahead || e != want {
				t.Errorf("%.80q: %v %d %v, want %d %v", s+behind, l, at, e, ahead, want)
			}
		}
	}
}

// P7.3: what does not end, and what Show would not write.
func TestLinesNotInForm(t *testing.T) {
	for _, line := range []string{
		// No byte 10 behind it.
		"tick", "t", " ", "undo 0", "undo 9", "type 0 k", "tick\r", "\x00",
		// Words.
		"\n", " \n", "tack\n", "Tick\n", "TICK\n", "ticktick\n", "tic\n", "k1\n", "0\n", "1\n", "tick\r\n", "\xff\n", "tick\x00\n",
		// Blanks.
		" tick\n", "tick \n", "undo  0\n", "undo 0 \n", " undo 0\n", "undo\t0\n", "undo 0\t\n", "type 0 \n", "type 0  k1\n", "type 0 k1 \n", "deliver 0 1  2\n", "undo0\n", "type 0k1\n", "type 0 k1i61\n",
		// Too few, or too many.
		"undo\n", "undo \n", "start\n", "type\n", "type \n", "type k1\n", "select 0 0\n", "deliver 0 1\n", "drop 0\n", "copy\n", "crash 0\n",
		"tick 0\n", "undo 0 0\n", "start 0 0\n", "select 0 0 0 0\n", "deliver 0 1 2 3\n", "drop 0 1 2 3\n", "copy 0 1 2 3\n", "crash 0 1 2\n", "tick k1\n", "undo 0 k1\n", "crash 0 1 i61\n", "type 0 1\n", "type 0 k1 1\n",
		// Numbers.
		"undo 00\n", "undo 01\n", "undo +0\n", "undo +1\n", "undo -0\n", "undo -01\n", "undo --1\n", "undo -\n", "undo 1-\n", "undo 0x1\n", "undo 1e0\n", "undo 1_0\n", "undo 1.0\n", "undo a\n", "undo ١\n", "undo i61\n",
		"undo 9223372036854775808\n", "undo -9223372036854775809\n", "undo 18446744073709551616\n", "undo 99999999999999999999999999\n", "crash 0 9223372036854775808\n",
		// Parts.
		"type 0 k\n", "type 0 d\n", "type 0 x1\n", "type 0 K1\n", "type 0 D1\n", "type 0 I61\n", "type 0 k01\n", "type 0 d+1\n", "type 0 k-0\n", "type 0 k 1\n", "type 0 k9223372036854775808\n", "type 0 d-9223372036854775809\n", "type 0 ka\n", "type 0 k1k1\n", "type 0 é1\n", "type 0 \xff\n",
		"type 0 i6\n", "type 0 i616\n", "type 0 iC3A9\n", "type 0 ic3A9\n", "type 0 i6g\n", "type 0 ig6\n", "type 0 i 61\n", "type 0 i-1\n", "type 0 i+1\n", "type 0 i0x\n", "type 0 i6é\n", "type 0 ié\n", "type 0 i61:0\n", "type 0 i6/\n", "type 0 i`a\n",
		// What is not in form is told ahead of what may not be.
		"undo 9 0\n", "undo 9 \n", "type 9 k0 x\n", "type -1 k01\n", "type 9", "select 9 -1 +1\n", "crash 0 -1 \n",
	} {
		refusedLine(t, line, api.ErrForm)
	}
}

// P7.3: what is in form, and may not be: bounds of numbers and texts, and which parts an operation may have, are not asked by the form.
func TestLinesThatMayNotBe(t *testing.T) {
	for _, c := range []struct {
		line string
		want api.Errno
	}{
		{"undo 4\n", api.ErrRange},
		{"undo -1\n", api.ErrRange},
		{"start 10\n", api.ErrRange},
		{"undo 9223372036854775807\n", api.ErrRange},
		{"undo -9223372036854775808\n", api.ErrRange},
		{"type 4\n", api.ErrRange},
		{"type -7 k1\n", api.ErrRange},
		{"select 0 -1 0\n", api.ErrRange},
		{"select 0 0 4001\n", api.ErrRange},
		{"select 0 4001 0\n", api.ErrRange},
		{"deliver 0 4 0\n", api.ErrRange},
		{"drop 0 0 -1\n", api.ErrRange},
		{"copy 0 0 1048577\n", api.ErrRange},
		{"crash 0 -1\n", api.ErrRange},
		{"crash 0 8388609\n", api.ErrRange},
		{"type 0 k0\n", api.ErrRange},
		{"type 0 k-1\n", api.ErrRange},
		{"type 0 d4001\n", api.ErrRange},
		{"type 0 d0 i\n", api.ErrRange},
		{"type 0 k9223372036854775807\n", api.ErrRange},
		{"type 0 d-9223372036854775808\n", api.ErrRange},
		{"type 0 k1 k1\n", api.ErrForm},
		{"type 0 d1 i61\n", api.ErrForm},
		{"type 0 i61 i61\n", api.ErrForm},
		{"type 0 i\n", api.ErrForm},
		{"type 0 iff\n", api.ErrForm},
		{"type 0 ic3\n", api.ErrForm},
		{"type 0 ieda080\n", api.ErrForm},
		{"type 0 k4000 i61\n", api.ErrSize},
		{"type 0 k4000 d1\n", api.ErrSize},
		{"type 0 i" + strings.Repeat("c3a9", api.MaxText+1) + "\n", api.ErrSize},
		// Of a text that may not be, and of a part that may not be, something else may be refused first.
		{"type 9 i\n", api.ErrRange},
		{"type 9 iff\n", api.ErrRange},
		{"type 0 k0 iff\n", api.ErrRange},
		{"type -1 k1 k1\n", api.ErrRange},
		{"type 0 i" + strings.Repeat("61", api.MaxText+1) + " k0\n", api.ErrSize},
	} {
		refusedLine(t, c.line, c.want)
	}
}

// P7.3: more parts than may be are read all the same, and then refused.
func TestTooManyParts(t *testing.T) {
	for _, n := range []int{api.MaxParts + 1, api.MaxParts + 2, 3 * api.MaxParts} {
		many := strings.Repeat(" k0", n)
		refusedLine(t, "type 0"+many+"\n", api.ErrSize)
		refusedLine(t, "type 4"+many+"\n", api.ErrRange)
		refusedLine(t, "type 0"+many+" k\n", api.ErrForm)
		refusedLine(t, "type 0"+many+" \n", api.ErrForm)
		refusedLine(t, "type 0"+many, api.ErrForm)
	}
	refusedLine(t, "type 0"+strings.Repeat(" k0", api.MaxParts)+"\n", api.ErrRange)
}

// P7.3: so many as may be, and what is told of the next one.
func TestReadMany(t *testing.T) {
	s := strings.Repeat("tick\n", api.MaxActs)
	if l, at, e := Read(tree, s); told(l) != told(alike(api.MaxActs, ticking())) || at != 0 || e != api.OK {
		t.Errorf("MaxActs: %d acts, %d %v", len(l), at, e)
	}
	for _, more := range []string{"tick\n", "tick", "\n", "tack\n", "undo 9\n", "x", strings.Repeat("tick\n", 10)} {
		if l, at, e := Read(tree, s+more); len(l) != 0 || at != api.MaxActs || e != api.ErrSize {
			t.Errorf("%q more: %d acts, %d %v", more, len(l), at, e)
		}
	}
	for _, c := range []struct {
		line string
		want api.Errno
	}{{"tack\n", api.ErrForm}, {"undo 9\n", api.ErrRange}, {"tick", api.ErrForm}} {
		ahead := strings.Repeat("tick\n", api.MaxActs-1)
		if l, at, e := Read(tree, ahead+c.line); len(l) != 0 || at != api.MaxActs-1 || e != c.want {
			t.Errorf("%q last: %d acts, %d %v", c.line, len(l), at, e)
		}
		if l, at, e := Read(tree, "tick\n"+c.line+s); c.line != "tick" && (len(l) != 0 || at != 1 || e != c.want) {
			t.Errorf("%q ahead of too many: %d acts, %d %v", c.line, len(l), at, e)
		}
	}
}
