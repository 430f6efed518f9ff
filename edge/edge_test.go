package edge

import (
	"fmt"
	"math"
	"strings"
	"testing"

	"wherry/api"
)

func keep(n int) api.Part      { return api.Part{Kind: api.Keep, N: n} }
func remove(n int) api.Part    { return api.Part{Kind: api.Delete, N: n} }
func insert(s string) api.Part { return api.Part{Kind: api.Insert, Text: s} }

func long(n int) string { return strings.Repeat("é", n) }

// side that sent and heard so many.
func side(sent, heard int, pending ...api.Op) api.Edge {
	return api.Edge{Sent: sent, Heard: heard, Pending: pending}
}

// told: a list without elements may be nil or not.
func told(l ...any) string { return fmt.Sprintf("%v", l) }

// operations that may not be, one for each refusal.
var (
	wrongSize  = api.Op{keep(api.MaxText), insert("x")}
	wrongRange = api.Op{keep(0)}
	wrongKind  = api.Op{{Kind: 4, N: 1}}
	wrongForm  = api.Op{keep(1), keep(1)}
)

// P2.1
func TestCheck(t *testing.T) {
	const most = api.MaxNumber
	for i, c := range []struct {
		e    api.Edge
		want api.Errno
	}{
		{api.Edge{}, api.OK},
		{api.Edge{Pending: []api.Op{}}, api.OK},
		{side(most, 0), api.OK},
		{side(0, most), api.OK},
		{side(most, most, nil), api.OK},
		{side(-1, 0), api.ErrState},
		{side(0, -1), api.ErrState},
		{side(most+1, 0), api.ErrState},
		{side(0, most+1), api.ErrState},
		{side(math.MinInt, 0), api.ErrState},
		{side(math.MaxInt, 0), api.ErrState},
		{side(0, math.MinInt), api.ErrState},
		{side(0, math.MaxInt), api.ErrState},
		{side(0, 0, nil), api.ErrState},
		{side(1, 0, nil), api.OK},
		{side(1, 0, nil, nil), api.ErrState},
		{side(2, 0, nil, nil), api.OK},
		{side(-1, 0, nil), api.ErrState},
		{side(1, 0, api.Op{keep(5)}), api.OK},
		{side(9, 0, api.Op{insert("ab"), keep(1)}, api.Op{remove(3)}, api.Op{insert("x")}, api.Op{keep(1)}), api.OK},
		{side(9, 0, api.Op{insert("ab"), keep(1)}, api.Op{remove(2)}), api.ErrState},
		{side(9, 0, api.Op{insert("ab"), keep(1)}, api.Op{remove(1)}), api.ErrState},
		{side(9, 0, api.Op{keep(1)}, api.Op{keep(1), insert("é")}, api.Op{keep(1)}), api.ErrState},
		{side(9, 0, api.Op{keep(1)}, nil), api.ErrState},
		{side(9, 0, nil, api.Op{keep(1)}), api.ErrState},
		{side(9, 0, wrongSize), api.ErrState},
		{side(9, 0, wrongRange), api.ErrState},
		{side(9, 0, wrongKind), api.ErrState},
		{side(9, 0, wrongForm), api.ErrState},
		{side(9, 0, api.Op{insert("\xff")}), api.ErrState},
		{side(9, 0, api.Op{keep(2)}, wrongForm), api.ErrState},
		{side(9, 0, wrongForm, api.Op{keep(2)}), api.ErrState},
	} {
		if e := Check(c.e); e != c.want {
			t.Errorf("case %d: %v: %v, want %v", i, c.e, e, c.want)
		}
	}
}

// P2.2
func TestSend(t *testing.T) {
	const most = api.MaxNumber
	for i, c := range []struct {
		e, want api.Edge
		o       api.Op
	}{
		{api.Edge{}, side(1, 0, nil), nil},
		{api.Edge{}, side(1, 0, api.Op{keep(7)}), api.Op{keep(7)}},
		{side(5, 3), side(6, 3, api.Op{insert("é")}), api.Op{insert("é")}},
		{side(1, 0, api.Op{insert("世𝄞")}), side(2, 0, api.Op{insert("世𝄞")}, api.Op{keep(1), remove(1)}), api.Op{keep(1), remove(1)}},
		{side(4, most, api.Op{keep(1)}, api.Op{remove(1)}), side(5, most, api.Op{keep(1)}, api.Op{remove(1)}, api.Op{insert("x")}), api.Op{insert("x")}},
		{side(most-1, 0), side(most, 0, nil), nil},
	} {
		if got, e := Send(c.e, c.o); told(got, e) != told(c.want, api.OK) {
			t.Errorf("case %d: %v %v: %v %v, want %v", i, c.e, c.o, got, e, c.want)
		}
	}
}

// P2.2: what is refused, and which refusal comes first.
func TestSendRefuses(t *testing.T) {
	const most = api.MaxNumber
	ends1 := api.Op{insert("é"), remove(2)}
	for i, c := range []struct {
		e    api.Edge
		o    api.Op
		want api.Errno
	}{
		{side(-1, 0), nil, api.ErrState},
		{side(0, 0, nil), nil, api.ErrState},
		{side(most+1, 0), wrongForm, api.ErrState},
		{side(0, most+1), nil, api.ErrState},
		{side(2, 0, nil, api.Op{keep(1)}), api.Op{keep(2)}, api.ErrState},
		{side(most, 0, ends1), wrongSize, api.ErrSize},
		{side(most, 0, ends1), wrongRange, api.ErrRange},
		{side(most, 0, ends1), wrongKind, api.ErrKind},
		{side(most, 0, ends1), wrongForm, api.ErrForm},
		{side(most, 0, ends1), api.Op{keep(2)}, api.ErrMatch},
		{side(3, 0, ends1), nil, api.ErrMatch},
		{side(3, 0, ends1), api.Op{insert("x")}, api.ErrMatch},
		{side(3, 0, api.Op{keep(2)}, api.Op{keep(2), insert("x")}), api.Op{keep(2)}, api.ErrMatch},
		{side(most, 0, ends1), api.Op{keep(1)}, api.ErrFull},
		{side(most, 0), nil, api.ErrFull},
	} {
		if got, e := Send(c.e, c.o); told(got, e) != told(api.Edge{}, c.want) {
			t.Errorf("case %d: %v %v: %v %v, want %v", i, c.e, c.o, got, e, c.want)
		}
	}
}

// P2.3
func TestHear(t *testing.T) {
	const most = api.MaxNumber
	x, y := api.Op{insert("x")}, api.Op{insert("y")}
	xy := side(2, 0, x, api.Op{keep(1), insert("y")})
	for i, c := range []struct {
		e     api.Edge
		o     api.Op
		heard int
		upper bool
		want  api.Edge
		told  api.Op
	}{
		{api.Edge{}, nil, 0, true, side(0, 1), nil},
		{api.Edge{}, api.Op{keep(7)}, 0, false, side(0, 1), api.Op{keep(7)}},
		{side(5, 3), y, 5, true, side(5, 4), y},
		{side(most, most-1), y, most, true, side(most, most), y},
		// The upper side's text stands ahead.
		{side(1, 0, x), y, 0, true, side(1, 1, api.Op{insert("x"), keep(1)}), api.Op{keep(1), insert("y")}},
		{side(1, 0, x), y, 0, false, side(1, 1, api.Op{keep(1), insert("x")}), api.Op{insert("y"), keep(1)}},
		// Of several each is passed, in its order.
		{xy, api.Op{insert("é")}, 0, true, side(2, 1, api.Op{insert("x"), keep(1)}, api.Op{keep(1), insert("y"), keep(1)}), api.Op{keep(2), insert("é")}},
		{xy, api.Op{insert("é")}, 0, false, side(2, 1, api.Op{keep(1), insert("x")}, api.Op{keep(2), insert("y")}), api.Op{insert("é"), keep(2)}},
		// What was heard is not Pending any more.
		{xy, api.Op{keep(1), insert("é")}, 1, true, side(2, 1, api.Op{keep(1), insert("y"), keep(1)}), api.Op{keep(2), insert("é")}},
		{xy, api.Op{keep(1), insert("é")}, 1, false, side(2, 1, api.Op{keep(2), insert("y")}), api.Op{keep(1), insert("é"), keep(1)}},
		{xy, api.Op{remove(2)}, 2, true, side(2, 1), api.Op{remove(2)}},
		{xy, api.Op{keep(9)}, 2, false, side(2, 1), api.Op{keep(9)}},
		// Pending are the last ones that were sent.
		{side(7, 2, x, api.Op{keep(1)}), y, 5, true, side(7, 3, api.Op{insert("x"), keep(1)}, api.Op{keep(2)}), api.Op{keep(1), insert("y")}},
		{side(7, 2, x, api.Op{remove(1)}), api.Op{remove(1)}, 6, true, side(7, 3, nil), nil},
		{side(7, 2, x, api.Op{remove(1)}), api.Op{remove(1)}, 6, false, side(7, 3, nil), nil},
		{side(7, 2, x, api.Op{remove(1)}), y, 7, true, side(7, 3), y},
	} {
		got, o, e := Hear(c.e, c.o, c.heard, c.upper)
		if told(got, o, e) != told(c.want, c.told, api.OK) {
			t.Errorf("case %d: %v %v %d %v: %v %v %v, want %v %v", i, c.e, c.o, c.heard, c.upper, got, o, e, c.want, c.told)
		}
	}
}

// P2.3: what is refused, and which refusal comes first.
func TestHearRefuses(t *testing.T) {
	const most = api.MaxNumber
	x := api.Op{insert("x")}
	half := api.Op{insert(long(api.MaxText/2 + 1))}
	for i, c := range []struct {
		e     api.Edge
		o     api.Op
		heard int
		want  api.Errno
	}{
		{side(-1, 0), x, -1, api.ErrState},
		{side(0, most+1), x, 0, api.ErrState},
		{side(0, 0, nil), x, 0, api.ErrState},
		{side(1, -1), wrongForm, 2, api.ErrState},
		{side(2, 0, nil, api.Op{keep(1)}), api.Op{keep(1)}, 2, api.ErrState},
		{side(1, most, x), wrongSize, 2, api.ErrSize},
		{side(1, most, x), wrongRange, 2, api.ErrRange},
		{side(1, most, x), wrongKind, 2, api.ErrKind},
		{side(1, most, x), wrongForm, -1, api.ErrForm},
		{side(1, most, x), api.Op{keep(3)}, 2, api.ErrRange},
		{side(1, most, x), api.Op{keep(3)}, -1, api.ErrRange},
		{api.Edge{}, x, 1, api.ErrRange},
		{api.Edge{}, x, -1, api.ErrRange},
		{side(5, 0), x, 4, api.ErrRange},
		{side(5, 0), x, 6, api.ErrRange},
		{side(5, 0, x), x, 3, api.ErrRange},
		{side(5, 0, x), x, 0, api.ErrRange},
		{side(5, 0, x), x, 6, api.ErrRange},
		{side(5, 0, x), x, math.MinInt, api.ErrRange},
		{side(5, 0, x), x, math.MaxInt, api.ErrRange},
		{side(1, most, x), api.Op{keep(3)}, 0, api.ErrFull},
		{side(1, most, x), x, 1, api.ErrFull},
		{side(1, 0, x), api.Op{keep(1)}, 0, api.ErrMatch},
		{side(2, 0, api.Op{keep(1)}, api.Op{keep(1), insert("x")}), x, 0, api.ErrMatch},
		{side(2, 0, x, api.Op{keep(1)}), x, 1, api.ErrMatch},
		{side(1, 0, half), half, 0, api.ErrSize},
		{side(3, 0, x, api.Op{remove(1)}, half), half, 0, api.ErrSize},
	} {
		for _, upper := range []bool{false, true} {
			got, o, e := Hear(c.e, c.o, c.heard, upper)
			if told(got, o, e) != told(api.Edge{}, api.Op(nil), c.want) {
				t.Errorf("case %d: %v %v %d %v: %v %v %v, want %v", i, c.e, c.o, c.heard, upper, got, o, e, c.want)
			}
		}
	}
}
