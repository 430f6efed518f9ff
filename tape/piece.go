package tape

import (
	"bytes"

	"wherry/api"
	"wherry/wire"
)

// lengthBytes stand ahead of each record's own.
const lengthBytes = 3

func encodeLength(n int) [lengthBytes]byte {
	return [lengthBytes]byte{byte(n >> 16), byte(n >> 8), byte(n)}
}

func decodeLength(b []byte) int {
	return int(b[0])<<16 | int(b[1])<<8 | int(b[2])
}

func mayBe(t api.Tape) bool {
	return len(t.Data) <= api.MaxTape && 0 <= t.Synced && t.Synced <= len(t.Data)
}

// cut: a tape of the first n bytes. The third index takes what stands behind them away, so that it is not even spare room.
func cut(data []byte, n, synced int) api.Tape {
	return api.Tape{Data: bytes.Clone(data[:n:n]), Synced: synced}
}

// first record of these bytes, and how many it has, those of its length too; whole: there is one.
func first(data []byte) (r api.Record, size int, whole bool) {
	if len(data) < lengthBytes {
		return api.Record{}, 0, false
	}
	size = lengthBytes + decodeLength(data)
	if len(data) < size {
		return api.Record{}, 0, false
	}
	r, e := wire.DecodeRecord(data[lengthBytes:size:size])
	if e != api.OK {
		return api.Record{}, 0, false
	}
	return r, size, true
}
