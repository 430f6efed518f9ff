package wire

import (
	"wherry/api"
	"wherry/text"
)

// CheckFrame: may it be?
func CheckFrame(f api.Frame) api.Errno {
	if f.Kind != api.Edit && f.Kind != api.Join && f.Kind != api.Whole {
		return api.ErrKind
	}
	if !counts(f.Heard) || !counts(f.Epoch) {
		return api.ErrRange
	}
	if e := text.Check(f.Op); e != api.OK {
		return e
	}
	if e := text.CheckText(f.Text); e != api.OK {
		return e
	}
	if !hasItsOwn(f) {
		return api.ErrForm
	}
	return api.OK
}

// hasItsOwn: has a frame what its Kind needs, and nothing that is not written for it?
func hasItsOwn(f api.Frame) bool {
	switch f.Kind {
	case api.Edit:
		return f.Epoch == 0 && f.Text == ""
	case api.Join:
		return f.Epoch != 0 && len(f.Op) == 0 && f.Text == ""
	default:
		return f.Epoch != 0 && len(f.Op) == 0 && f.Heard == 0
	}
}

// CheckPacket: may it be?
func CheckPacket(p api.Packet) api.Errno {
	if !counts(p.Epoch) || !counts(p.Number) || !counts(p.Ack) {
		return api.ErrRange
	}
	if p.Bare {
		return checkBare(p)
	}
	if p.Number == 0 || p.Epoch == 0 {
		return api.ErrForm
	}
	return CheckFrame(p.Frame)
}

func checkBare(p api.Packet) api.Errno {
	if p.Number != 0 || !isEmpty(p.Frame) {
		return api.ErrForm
	}
	return api.OK
}

func isEmpty(f api.Frame) bool {
	return f.Kind == 0 && f.Heard == 0 && f.Epoch == 0 && len(f.Op) == 0 && f.Text == ""
}

// CheckRecord: may it be?
func CheckRecord(r api.Record) api.Errno {
	if !counts(r.Epoch) {
		return api.ErrRange
	}
	if r.Epoch != 0 && len(r.Op) > 0 {
		return api.ErrForm
	}
	return text.Check(r.Op)
}

// counts: is it a number of the kind that packets and records have?
func counts(n int) bool { return 0 <= n && n <= api.MaxNumber }
