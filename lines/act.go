package lines

import (
	"wherry/api"
	"wherry/text"
)

// words of the kinds of acts.
var words = [...]string{
	api.Type:    "type",
	api.Undo:    "undo",
	api.Select:  "select",
	api.Deliver: "deliver",
	api.Drop:    "drop",
	api.Copy:    "copy",
	api.Tick:    "tick",
	api.Crash:   "crash",
	api.Start:   "start",
}

// noKind of act has this number; its word is empty.
const noKind = 0

// kindOf the acts that have this word.
func kindOf(word string) int {
	for kind, w := range words {
		if w == word {
			return kind
		}
	}
	return noKind
}

// numbersOf an act: where those are that its Kind has, in the order of its line. All that goes by a Kind's numbers goes by this.
func numbersOf(a *api.Act) []*int {
	var l []*int
	add := func(more ...*int) { l = append(l, more...) }
	switch a.Kind {
	case api.Type, api.Undo, api.Start:
		add(&a.Node)
	case api.Select:
		add(&a.Node, &a.Mark.Anchor, &a.Mark.Head)
	case api.Deliver, api.Drop, api.Copy:
		add(&a.Node, &a.To, &a.Pick)
	case api.Crash:
		add(&a.Node, &a.Keep)
	}
	return l
}

// checkAct of a tree that may be.
func checkAct(t api.Tree, a api.Act) api.Errno {
	if a.Kind <= noKind || a.Kind >= len(words) {
		return api.ErrKind
	}
	if !numbersMayBe(t, a) {
		return api.ErrRange
	}
	if e := text.Check(a.Op); e != api.OK {
		return e
	}
	if hasMore(a) {
		return api.ErrForm
	}
	return api.OK
}

// numbersMayBe: those, too, that the Kind has not.
func numbersMayBe(t api.Tree, a api.Act) bool {
	last := len(t) - 1
	return upTo(last, a.Node) && upTo(last, a.To) &&
		upTo(api.MaxPick, a.Pick) && upTo(api.MaxTape, a.Keep) &&
		upTo(api.MaxText, a.Mark.Anchor) && upTo(api.MaxText, a.Mark.Head)
}

func upTo(most, n int) bool { return 0 <= n && n <= most }

// hasMore than its Kind has: is anything left without that? The act is the call's own here, so it may be changed.
func hasMore(a api.Act) bool {
	for _, n := range numbersOf(&a) {
		*n = 0
	}
	if a.Kind == api.Type {
		a.Op = nil
	}
	return a.Node != 0 || a.To != 0 || a.Pick != 0 || a.Keep != 0 || len(a.Op) > 0 || a.Mark != api.Mark{}
}
