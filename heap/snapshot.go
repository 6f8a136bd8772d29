package heap

import (
	"windlass/api"
	"windlass/codec"
)

// Snapshot: see the chapter.
func Snapshot(p api.Program, s api.State) ([]byte, api.Errno) {
	if !Is(p, s) {
		return nil, api.ErrHeapState
	}
	var b []byte
	for m, row := range s.Maps {
		b = append(b, codec.PutUint(uint64(len(row)))...)
		for _, entry := range entries(s, m) {
			b = appendValue(appendValue(b, entry.Key), entry.Value)
		}
	}
	return b, api.OK
}

// appendValue takes a plain value, which PutValue never refuses.
func appendValue(b []byte, v api.Value) []byte {
	own, _ := codec.PutValue(v)
	return append(b, own...)
}

// Restore: see the chapter.
func Restore(p api.Program, b []byte) (api.State, api.Errno) {
	var s api.State
	at := 0
	for range p.Maps {
		row, size, ok := readRow(b[at:])
		if !ok {
			return api.State{}, api.ErrHeapState
		}
		s.Maps = append(s.Maps, row)
		at += size
	}
	// Numbers and values have one spelling each: a state that was read to the last byte has just these bytes.
	if at < len(b) || !Is(p, s) {
		return api.State{}, api.ErrHeapState
	}
	return s, api.OK
}

// readRow: the entries of a map at b's beginning, and how many bytes they have.
func readRow(b []byte) ([]api.Entry, int, bool) {
	count, at, err := codec.Uint(b)
	if err != api.OK || count > api.MaxEntries {
		return nil, 0, false
	}
	var row []api.Entry
	for range int(count) {
		entry, size, ok := readEntry(b[at:])
		if !ok {
			return nil, 0, false
		}
		row = append(row, entry)
		at += size
	}
	return row, at, true
}

func readEntry(b []byte) (api.Entry, int, bool) {
	key, size, err := codec.Value(b)
	if err != api.OK {
		return api.Entry{}, 0, false
	}
	v, more, err := codec.Value(b[size:])
	if err != api.OK {
		return api.Entry{}, 0, false
	}
	return api.Entry{Key: key, Value: v}, size + more, true
}
