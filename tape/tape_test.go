package tape_test

import (
	"bytes"
	"math"
	"math/rand"
	"slices"
	"testing"

	"troth/api"
	"troth/tape"
)

func made(t *testing.T, room int) *tape.Tape {
	t.Helper()
	x, e := tape.New(room)
	if e != api.OK || x == nil {
		t.Fatalf("New(%d): %v, %v", room, x, e)
	}
	return x
}

func ok(t *testing.T, what string, e api.Errno) {
	t.Helper()
	if e != api.OK {
		t.Fatalf("%s: %v", what, e)
	}
}

// look holds a tape against what it should be.
func look(t *testing.T, x *tape.Tape, b []byte, forced, room int) {
	t.Helper()
	if !bytes.Equal(x.Bytes(), b) || x.Len() != len(b) || x.Forced() != forced || x.Room() != room {
		t.Fatalf("bytes %v, %d of them, %d forced, room %d; want %v, %d, %d", x.Bytes(), x.Len(), x.Forced(), x.Room(), b, forced, room)
	}
}

// halfForced is a tape of room 8 with 1 2 3 forced and 4 5 6 behind them.
func halfForced(t *testing.T) *tape.Tape {
	t.Helper()
	x := made(t, 8)
	ok(t, "Append", x.Append([]byte{1, 2, 3}))
	ok(t, "Force", x.Force())
	ok(t, "Append", x.Append([]byte{4, 5, 6}))
	look(t, x, []byte{1, 2, 3, 4, 5, 6}, 3, 8)
	return x
}

// P2.1

func TestNewGivesAnEmptyTape(t *testing.T) {
	for _, room := range []int{1, 2, 4096, 65535, 65536} {
		look(t, made(t, room), nil, 0, room)
	}
}

func TestNewRefusesARoomThatIsNone(t *testing.T) {
	for _, room := range []int{math.MinInt, -1, 0, 65537, math.MaxInt} {
		if x, e := tape.New(room); e != api.ErrArg || x != nil {
			t.Errorf("New(%d) = %v, %v", room, x, e)
		}
	}
}

func TestATapeThatNoCallMade(t *testing.T) {
	for name, x := range map[string]*tape.Tape{"nil": nil, "zero": {}, "new": new(tape.Tape)} {
		for range 2 { // what is refused changes nothing
			for call, e := range map[string]api.Errno{
				"Append":         x.Append([]byte{1}),
				"Append nothing": x.Append(nil),
				"Force":          x.Force(),
				"Crash":          x.Crash(1),
				"Cut":            x.Cut(0),
				"Cut below":      x.Cut(-1),
				"Swap":           x.Swap([]byte{1}),
				"Swap nothing":   x.Swap(nil),
			} {
				if e != api.ErrNil {
					t.Errorf("%s, %s: %v", name, call, e)
				}
			}
			if len(x.Bytes()) != 0 || x.Len() != 0 || x.Forced() != 0 || x.Room() != 0 {
				t.Errorf("%s: %v, %d, %d, %d", name, x.Bytes(), x.Len(), x.Forced(), x.Room())
			}
		}
	}
}

func TestAppendPutsBytesBehindNotForced(t *testing.T) {
	x := made(t, 4)
	ok(t, "Append", x.Append([]byte{1, 2}))
	look(t, x, []byte{1, 2}, 0, 4)
	ok(t, "Append of nothing", x.Append(nil))
	look(t, x, []byte{1, 2}, 0, 4)
	ok(t, "Force", x.Force())
	look(t, x, []byte{1, 2}, 2, 4)
	ok(t, "Append", x.Append([]byte{3, 4}))
	look(t, x, []byte{1, 2, 3, 4}, 2, 4)
	ok(t, "Append of nothing to a full tape", x.Append([]byte{}))
	look(t, x, []byte{1, 2, 3, 4}, 2, 4)
}

func TestAppendRefusesMoreThanRoom(t *testing.T) {
	x := made(t, 4)
	for _, b := range [][]byte{make([]byte, 5), make([]byte, 70000)} {
		if e := x.Append(b); e != api.ErrFull {
			t.Errorf("Append of %d bytes: %v", len(b), e)
		}
		look(t, x, nil, 0, 4)
	}
	ok(t, "Append", x.Append([]byte{1, 2, 3}))
	if e := x.Append([]byte{4, 5}); e != api.ErrFull {
		t.Errorf("Append: %v", e)
	}
	look(t, x, []byte{1, 2, 3}, 0, 4)
	ok(t, "Append", x.Append([]byte{4}))
	if e := x.Append([]byte{5}); e != api.ErrFull {
		t.Errorf("Append: %v", e)
	}
	look(t, x, []byte{1, 2, 3, 4}, 0, 4)
	full := made(t, api.MaxTape)
	ok(t, "Append of all there is room for", full.Append(make([]byte, api.MaxTape)))
	if e := full.Append([]byte{1}); e != api.ErrFull || full.Len() != api.MaxTape {
		t.Errorf("Append: %v, %d", e, full.Len())
	}
}

func TestForceForcesAll(t *testing.T) {
	x := halfForced(t)
	ok(t, "Force", x.Force())
	look(t, x, []byte{1, 2, 3, 4, 5, 6}, 6, 8)
	ok(t, "Force", x.Force())
	look(t, x, []byte{1, 2, 3, 4, 5, 6}, 6, 8)
	empty := made(t, 3)
	ok(t, "Force", empty.Force())
	look(t, empty, nil, 0, 3)
}

// P2.2

func TestCrashKeepsAFront(t *testing.T) {
	for keep, want := range map[int][]byte{
		math.MinInt: {1, 2, 3},
		-1:          {1, 2, 3},
		0:           {1, 2, 3},
		1:           {1, 2, 3, 4},
		2:           {1, 2, 3, 4, 5},
		3:           {1, 2, 3, 4, 5, 6},
		4:           {1, 2, 3, 4, 5, 6},
		math.MaxInt: {1, 2, 3, 4, 5, 6},
	} {
		x := halfForced(t)
		ok(t, "Crash", x.Crash(keep))
		look(t, x, want, len(want), 8)
	}
}

func TestCrashOfTheExample(t *testing.T) {
	x := made(t, 4)
	ok(t, "Append", x.Append([]byte{1, 2}))
	ok(t, "Force", x.Force())
	ok(t, "Append", x.Append([]byte{3, 4}))
	ok(t, "Crash", x.Crash(1))
	look(t, x, []byte{1, 2, 3}, 3, 4)
	if e := x.Append([]byte{5, 6}); e != api.ErrFull {
		t.Errorf("Append: %v", e)
	}
	look(t, x, []byte{1, 2, 3}, 3, 4)
}

func TestCutLeavesAFront(t *testing.T) {
	all := []byte{1, 2, 3, 4, 5, 6}
	for n := range len(all) + 1 {
		x := halfForced(t)
		ok(t, "Cut", x.Cut(n))
		look(t, x, all[:n], min(n, 3), 8)
	}
}

func TestCutRefusesAPlaceThatIsNone(t *testing.T) {
	for _, n := range []int{math.MinInt, -1, 7, 8, math.MaxInt} {
		x := halfForced(t)
		if e := x.Cut(n); e != api.ErrArg {
			t.Errorf("Cut(%d): %v", n, e)
		}
		look(t, x, []byte{1, 2, 3, 4, 5, 6}, 3, 8)
	}
}

func TestWhatIsCutDoesNotComeBack(t *testing.T) {
	x := halfForced(t)
	ok(t, "Cut", x.Cut(2))
	ok(t, "Append", x.Append([]byte{9}))
	look(t, x, []byte{1, 2, 9}, 2, 8)
	ok(t, "Crash", x.Crash(-5))
	look(t, x, []byte{1, 2}, 2, 8)
}

func TestSwapLaysOtherBytesForced(t *testing.T) {
	for _, b := range [][]byte{nil, {}, {7}, {7, 8, 9, 10, 11, 12, 13, 14}} {
		x := halfForced(t)
		ok(t, "Swap", x.Swap(b))
		look(t, x, b, len(b), 8)
		ok(t, "Crash", x.Crash(0))
		look(t, x, b, len(b), 8)
	}
}

func TestSwapRefusesMoreThanRoom(t *testing.T) {
	for _, n := range []int{9, 70000} {
		x := halfForced(t)
		if e := x.Swap(make([]byte, n)); e != api.ErrFull {
			t.Errorf("Swap of %d bytes: %v", n, e)
		}
		look(t, x, []byte{1, 2, 3, 4, 5, 6}, 3, 8)
	}
}

// Rules 4 and 5: what is handed in is not changed and not kept, what is handed out is new.

func TestWhatIsHandedInIsNotKeptOrChanged(t *testing.T) {
	for name, put := range map[string]func(*tape.Tape, []byte) api.Errno{"Append": (*tape.Tape).Append, "Swap": (*tape.Tape).Swap} {
		x := made(t, 9)
		whole := []byte{1, 2, 3, 50, 51, 52}
		ok(t, name, put(x, whole[:3]))
		ok(t, "Append", x.Append([]byte{4, 5}))
		ok(t, "Append", x.Append([]byte{6}))
		if !bytes.Equal(whole, []byte{1, 2, 3, 50, 51, 52}) {
			t.Errorf("%s: what was handed in is %v", name, whole)
		}
		y := made(t, 9)
		ok(t, name, put(y, whole[:3]))
		clear(whole)
		if !bytes.Equal(x.Bytes(), []byte{1, 2, 3, 4, 5, 6}) || !bytes.Equal(y.Bytes(), []byte{1, 2, 3}) {
			t.Errorf("%s: a tape hangs on what was handed in: %v, %v", name, x.Bytes(), y.Bytes())
		}
	}
}

func TestWhatIsHandedOutIsNew(t *testing.T) {
	x := halfForced(t)
	ok(t, "Cut", x.Cut(5))
	b, c := x.Bytes(), x.Bytes()
	whole := b[:cap(b)]
	if len(whole) > 5 && whole[5] == 6 {
		t.Errorf("what was cut off stands behind what is handed out: %v", whole)
	}
	clear(whole)
	look(t, x, []byte{1, 2, 3, 4, 5}, 3, 8)
	if !bytes.Equal(c, []byte{1, 2, 3, 4, 5}) {
		t.Errorf("two answers share: %v", c)
	}
	before := x.Bytes()
	ok(t, "Append", x.Append([]byte{7}))
	ok(t, "Swap", x.Swap([]byte{8}))
	if !bytes.Equal(before, []byte{1, 2, 3, 4, 5}) {
		t.Errorf("a later call reached what was handed out: %v", before)
	}
}

func TestATapeSwappedWithItsOwnBytes(t *testing.T) {
	x := halfForced(t)
	ok(t, "Swap", x.Swap(x.Bytes()))
	look(t, x, []byte{1, 2, 3, 4, 5, 6}, 6, 8)
}

func TestTapesDoNotHangOnOneAnother(t *testing.T) {
	x, y := halfForced(t), halfForced(t)
	ok(t, "Swap", y.Swap(x.Bytes()))
	ok(t, "Cut", x.Cut(1))
	ok(t, "Append", x.Append([]byte{9, 9, 9, 9}))
	look(t, y, []byte{1, 2, 3, 4, 5, 6}, 6, 8)
	look(t, x, []byte{1, 9, 9, 9, 9}, 1, 8)
}

// A plain is a tape by the words alone: every byte has a mark of its own.
type plain struct {
	room   int
	bytes  []byte
	marked []bool
}

func (p *plain) put(b []byte, mark bool) {
	for _, x := range b {
		p.bytes = append(p.bytes, x)
		p.marked = append(p.marked, mark)
	}
}

func (p *plain) cut(n int) {
	p.bytes, p.marked = p.bytes[:n], p.marked[:n]
}

func (p *plain) forced() int {
	n := 0
	for _, m := range p.marked {
		if m {
			n++
		}
	}
	return n
}

func (p *plain) force() {
	for i := range p.marked {
		p.marked[i] = true
	}
}

func (p *plain) step(x *tape.Tape, kind, n int, b []byte) (got, want api.Errno) {
	switch kind {
	case 0, 1, 2:
		if len(p.bytes)+len(b) > p.room {
			return x.Append(b), api.ErrFull
		}
		p.put(b, false)
		return x.Append(b), api.OK
	case 3:
		p.force()
		return x.Force(), api.OK
	case 4:
		p.cut(max(p.forced(), min(len(p.bytes), p.forced()+n)))
		p.force()
		return x.Crash(n), api.OK
	case 5:
		if n < 0 || n > len(p.bytes) {
			return x.Cut(n), api.ErrArg
		}
		p.cut(n)
		return x.Cut(n), api.OK
	}
	if len(b) > p.room {
		return x.Swap(b), api.ErrFull
	}
	p.cut(0)
	p.put(b, true)
	return x.Swap(b), api.OK
}

// P2.5, and all of P2.1 and P2.2 together.
func TestManySteps(t *testing.T) {
	r := rand.New(rand.NewSource(1))
	for range 300 {
		room := 1 + r.Intn(20)
		x, p := made(t, room), &plain{room: room}
		for range 60 {
			b := make([]byte, r.Intn(room/2+4))
			r.Read(b)
			kind, n := r.Intn(7), r.Intn(2*room+4)-2
			got, want := p.step(x, kind, n, b)
			if got != want {
				t.Fatalf("step %d with %d, %v: %v; want %v", kind, n, b, got, want)
			}
			look(t, x, p.bytes, p.forced(), room)
			if x.Forced() < 0 || x.Forced() > x.Len() || x.Len() > x.Room() {
				t.Fatalf("%d forced of %d in %d", x.Forced(), x.Len(), x.Room())
			}
		}
	}
}

// P2.3

func TestBehindACrashWhatWasForcedIsThere(t *testing.T) {
	r := rand.New(rand.NewSource(2))
	for range 500 {
		x := made(t, 30)
		first, rest := make([]byte, r.Intn(16)), make([]byte, r.Intn(15))
		r.Read(first)
		r.Read(rest)
		ok(t, "Append", x.Append(first))
		ok(t, "Force", x.Force())
		ok(t, "Append", x.Append(rest))
		ok(t, "Crash", x.Crash(r.Intn(30)-5))
		if b := x.Bytes(); !bytes.HasPrefix(b, first) || !bytes.HasPrefix(slices.Concat(first, rest), b) {
			t.Fatalf("%v and %v left %v", first, rest, b)
		}
	}
}

// P2.4

func TestASecondCrashChangesNothing(t *testing.T) {
	for keep := -1; keep < 5; keep++ {
		for again := -1; again < 9; again++ {
			x := halfForced(t)
			ok(t, "Crash", x.Crash(keep))
			b, forced := x.Bytes(), x.Forced()
			ok(t, "Crash", x.Crash(again))
			look(t, x, b, forced, 8)
		}
	}
}

// P1: every call ends and none panics.

func TestNoCallPanics(t *testing.T) {
	numbers := []int{math.MinInt, -1, 0, 1, 2, 65536, math.MaxInt}
	for _, room := range numbers {
		x, _ := tape.New(room) // nil of some
		for _, n := range numbers {
			x.Append([]byte{1, 2, 3})
			x.Cut(n)
			x.Append(make([]byte, 10))
			x.Crash(n)
			x.Append([]byte{1})
			x.Force()
			x.Crash(n)
			x.Swap(make([]byte, 5))
			x.Cut(n)
			if x.Forced() > x.Len() || x.Len() > x.Room() || len(x.Bytes()) != x.Len() {
				t.Fatalf("room %d, %d: %d forced of %d in %d", room, n, x.Forced(), x.Len(), x.Room())
			}
		}
	}
}
