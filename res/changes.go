package res

import (
	"slices"

	"troth/api"
	"troth/oct"
)

// Kinds of changes: those of keys, and those of items behind them.
const (
	firstKind   = 1
	lastOfKeys  = 2
	lastKind    = 4
	mostChanges = 48
	mostKey     = 1 << 62 // that is read
)

// How many bytes a change has.
const (
	kindSize   = 1
	numberSize = 8
	keyEnd     = kindSize + numberSize
	changeSize = keyEnd + numberSize
)

func isOfKey(x api.Change) bool { return firstKind <= x.Kind && x.Kind <= lastOfKeys }

// parted is the changes of keys that stand ahead of all others, and the rest.
func parted(list []api.Change) (front, rest []api.Change) {
	end := slices.IndexFunc(list, func(x api.Change) bool { return !isOfKey(x) })
	if end < 0 {
		end = len(list)
	}
	return list[:end], list[end:]
}

// Write is changes as bytes.
func Write(list []api.Change) ([]byte, api.Errno) {
	switch {
	case len(list) > mostChanges:
		return nil, api.ErrLong
	case slices.ContainsFunc(list, cannotBeWritten):
		return nil, api.ErrKind
	}
	var b []byte
	for _, x := range list {
		b = number(b, uint64(x.Kind), kindSize)
		b = number(b, uint64(x.Key), numberSize)
		b = number(b, x.Val, numberSize)
	}
	return b, api.OK
}

func cannotBeWritten(x api.Change) bool {
	return x.Kind < firstKind || x.Kind > lastKind || x.Key < 0
}

// number is b and v, which n bytes are known to hold, behind it.
func number(b []byte, v uint64, n int) []byte {
	digits, _ := oct.Put(v, n)
	return append(b, digits...)
}

// Read reads changes.
func Read(b []byte) ([]api.Change, api.Errno) {
	switch {
	case len(b)%changeSize != 0:
		return nil, api.ErrShort
	case len(b)/changeSize > mostChanges:
		return nil, api.ErrLong
	}
	var list []api.Change
	for piece := range slices.Chunk(b, changeSize) {
		x, e := change(piece)
		if e != api.OK {
			return nil, e
		}
		list = append(list, x)
	}
	return list, api.OK
}

// change is the change that a piece of bytes says.
func change(b []byte) (api.Change, api.Errno) {
	kind, _ := oct.Get(b[:kindSize])
	key, _ := oct.Get(b[kindSize:keyEnd])
	val, _ := oct.Get(b[keyEnd:])
	if kind < firstKind || kind > lastKind || key > mostKey {
		return api.Change{}, api.ErrKind
	}
	return api.Change{Kind: int(kind), Key: int(key), Val: val}, api.OK
}
