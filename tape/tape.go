// Package tape is layer 2: a row of bytes that outlives crashes, as far as it was forced.
package tape

import (
	"troth/api"
)

// Tape is a row of bytes, the first of which are forced. Its bytes are never written over where they lie: they are cut, or laid anew.
type Tape struct {
	room   int // 0 of a tape that no call made
	bytes  []byte
	forced int
}

// New is an empty tape.
func New(room int) (*Tape, api.Errno) {
	if room < 1 || room > api.MaxTape {
		return nil, api.ErrArg
	}
	return &Tape{room: room}, api.OK
}

func (t *Tape) made() bool { return t != nil && t.room > 0 }

// Append puts b behind the others, not forced.
func (t *Tape) Append(b []byte) api.Errno {
	if !t.made() {
		return api.ErrNil
	}
	if len(b) > t.room-len(t.bytes) {
		return api.ErrFull
	}
	t.bytes = lay(t.bytes, b)
	return api.OK
}

// Force forces all.
func (t *Tape) Force() api.Errno {
	if !t.made() {
		return api.ErrNil
	}
	t.forced = len(t.bytes)
	return api.OK
}

// Crash leaves what was forced, and the first keep bytes of the rest; all that is left is forced.
func (t *Tape) Crash(keep int) api.Errno {
	if !t.made() {
		return api.ErrNil
	}
	loose := len(t.bytes) - t.forced
	t.shorten(t.forced + min(max(keep, 0), loose))
	t.forced = len(t.bytes)
	return api.OK
}

// Cut drops what stands behind the first n bytes.
func (t *Tape) Cut(n int) api.Errno {
	if !t.made() {
		return api.ErrNil
	}
	if n < 0 || n > len(t.bytes) {
		return api.ErrArg
	}
	t.shorten(n)
	t.forced = min(t.forced, n)
	return api.OK
}

// shorten leaves no room behind, so that what was dropped is out of reach.
func (t *Tape) shorten(n int) { t.bytes = t.bytes[:n:n] }

// Swap lays b in the place of all, forced.
func (t *Tape) Swap(b []byte) api.Errno {
	if !t.made() {
		return api.ErrNil
	}
	if len(b) > t.room {
		return api.ErrFull
	}
	t.bytes = lay(nil, b)
	t.forced = len(t.bytes)
	return api.OK
}

// Bytes is its bytes.
func (t *Tape) Bytes() []byte {
	if !t.made() {
		return nil
	}
	return lay(nil, t.bytes)
}

// Len is how many bytes it has.
func (t *Tape) Len() int {
	if !t.made() {
		return 0
	}
	return len(t.bytes)
}

// Forced is how many of them are forced.
func (t *Tape) Forced() int {
	if !t.made() {
		return 0
	}
	return t.forced
}

// Room is how many it has room for.
func (t *Tape) Room() int {
	if !t.made() {
		return 0
	}
	return t.room
}

// lay is both one behind the other, in new memory.
func lay(front, back []byte) []byte {
	all := make([]byte, len(front)+len(back))
	n := copy(all, front)
	copy(all[n:], back)
	return all
}
