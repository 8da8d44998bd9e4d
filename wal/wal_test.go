package wal_test

import (
	"bytes"
	"encoding/binary"
	"hash/adler32"
	"math"
	"math/rand"
	"slices"
	"testing"

	"troth/api"
	"troth/oct"
	"troth/tape"
	"troth/wal"
)

// raw is the bytes of a record as the words say, whether it may be or not.
func raw(kind byte, body []byte) []byte {
	b := binary.BigEndian.AppendUint16(nil, uint16(len(body)))
	b = append(b, kind)
	b = append(b, body...)
	return binary.BigEndian.AppendUint32(b, adler32.Checksum(b)) // the sum of chapter 1 by another hand
}

func rawAll(list []api.Rec) []byte {
	var b []byte
	for _, r := range list {
		b = append(b, raw(byte(r.Kind), r.Body)...)
	}
	return b
}

func same(a, b []api.Rec) bool {
	return slices.EqualFunc(a, b, func(x, y api.Rec) bool { return x.Kind == y.Kind && bytes.Equal(x.Body, y.Body) })
}

func bodyOf(r *rand.Rand, n int) []byte {
	b := make([]byte, n)
	r.Read(b)
	return b
}

func randomRecs(r *rand.Rand, many, most int) []api.Rec {
	list := make([]api.Rec, many)
	for i := range list {
		list[i] = api.Rec{Kind: 1 + r.Intn(255), Body: bodyOf(r, r.Intn(most+1))}
	}
	return list
}

func newTape(t *testing.T, room int) *tape.Tape {
	t.Helper()
	x, e := tape.New(room)
	ok(t, "tape.New", e)
	return x
}

func ok(t *testing.T, what string, e api.Errno) {
	t.Helper()
	if e != api.OK {
		t.Fatalf("%s: %v", what, e)
	}
}

// open opens a log on x, and holds what it answers against want.
func open(t *testing.T, x *tape.Tape, want []api.Rec) *wal.Log {
	t.Helper()
	l, list, e := wal.Open(x)
	if e != api.OK || l == nil || !same(list, want) {
		t.Fatalf("Open: %v, %v; want %v", list, e, want)
	}
	look(t, l, x, want, x.Len())
	return l
}

// look holds a log, and the tape that it stands on, against what they should be.
func look(t *testing.T, l *wal.Log, x *tape.Tape, want []api.Rec, forced int) {
	t.Helper()
	if list := l.Records(); !same(list, want) {
		t.Fatalf("Records: %v; want %v", list, want)
	}
	if b := rawAll(want); !bytes.Equal(x.Bytes(), b) || x.Forced() != forced || l.Room() != x.Room()-len(b) {
		t.Fatalf("on the tape %v, %d forced, room for %d; want %v, %d, %d", x.Bytes(), x.Forced(), l.Room(), b, forced, x.Room()-len(b))
	}
}

var (
	one   = api.Rec{Kind: 1, Body: []byte{10}}
	two   = api.Rec{Kind: 2, Body: []byte{20, 21}}
	three = api.Rec{Kind: 255, Body: nil}
)

// P3.1: Write

func TestWriteOfTheExample(t *testing.T) {
	b, e := wal.Write(api.Rec{Kind: 7, Body: []byte{1, 2}})
	if e != api.OK || !bytes.Equal(b, []byte{0, 2, 7, 1, 2, 0, 38, 0, 13}) {
		t.Errorf("Write = %v, %v", b, e)
	}
}

func TestWriteGivesARecordsBytes(t *testing.T) {
	r := rand.New(rand.NewSource(1))
	for _, kind := range []int{1, 2, 7, 127, 128, 254, 255} {
		for _, n := range []int{0, 1, 2, 255, 256, 257, 1000, 1023, 1024} {
			body := bodyOf(r, n)
			if b, e := wal.Write(api.Rec{Kind: kind, Body: body}); e != api.OK || !bytes.Equal(b, raw(byte(kind), body)) {
				t.Errorf("Write of kind %d with %d bytes: %v, %v", kind, n, b, e)
			}
		}
	}
	full := bytes.Repeat([]byte{255}, 1024) // a sum of four great bytes
	if b, e := wal.Write(api.Rec{Kind: 255, Body: full}); e != api.OK || !bytes.Equal(b, raw(255, full)) {
		t.Errorf("Write of 255s: %v, %v", b, e)
	}
}

func TestWriteRefusesWhatMayNotBe(t *testing.T) {
	for _, c := range []struct {
		kind, n int
		want    api.Errno
	}{
		{0, 0, api.ErrKind},
		{-1, 3, api.ErrKind},
		{256, 3, api.ErrKind},
		{257, 3, api.ErrKind}, // 1, if it were cut to a byte
		{-255, 3, api.ErrKind},
		{math.MinInt, 3, api.ErrKind},
		{math.MaxInt, 3, api.ErrKind},
		{1, 1025, api.ErrLong},
		{255, 65536, api.ErrLong}, // no bytes, if its length were cut to two
		{1, 70000, api.ErrLong},
		{0, 1025, api.ErrKind}, // the Kind comes first
		{256, 70000, api.ErrKind},
	} {
		if b, e := wal.Write(api.Rec{Kind: c.kind, Body: make([]byte, c.n)}); e != c.want || len(b) != 0 {
			t.Errorf("Write of kind %d with %d bytes: %v, %v; want %v", c.kind, c.n, b, e, c.want)
		}
	}
}

// P3.1: Read

func TestReadGivesTheRecordsAtTheFront(t *testing.T) {
	r := rand.New(rand.NewSource(2))
	full := api.Rec{Kind: 3, Body: bodyOf(r, 1024)}
	lists := [][]api.Rec{nil, {one}, {three}, {one, two, three}, {full}, {full, three, full, one}, randomRecs(r, 300, 40)}
	zeros := make([]byte, 50)
	for _, list := range lists {
		b := rawAll(list)
		for _, tail := range [][]byte{nil, {0}, {0, 0}, zeros, raw(0, []byte{1}), raw(9, make([]byte, 1025)), {0, 0, 9, 0, 0, 0, 0}, {255, 255, 1}} {
			if got, n := wal.Read(slices.Concat(b, tail)); !same(got, list) || n != len(b) {
				t.Errorf("Read of %d records with %v behind them: %d, %d bytes of %d", len(list), tail, len(got), n, len(b))
			}
		}
	}
}

func TestReadStopsAtWhatIsNoRecord(t *testing.T) {
	wrongSum := raw(5, []byte{1, 2, 3})
	wrongSum[len(wrongSum)-1]++
	wrongHighSum := raw(5, []byte{1, 2, 3})
	wrongHighSum[len(wrongHighSum)-4]++
	for name, bad := range map[string][]byte{
		"kind 0":               raw(0, []byte{1, 2}),
		"kind 0, empty":        raw(0, nil),
		"1025 bytes":           raw(5, make([]byte, 1025)),
		"65535 bytes":          raw(5, make([]byte, 65535)),
		"another sum":          wrongSum,
		"another sum in front": wrongHighSum,
		"no whole record":      raw(5, []byte{1, 2, 3})[:9],
		"a length too great":   {0, 9, 5, 1, 2, 3, 4, 5, 6},
	} {
		if got, n := wal.Read(bad); len(got) != 0 || n != 0 {
			t.Errorf("%s: %v, %d", name, got, n)
		}
		front := rawAll([]api.Rec{one, two})
		b := slices.Concat(front, bad, rawAll([]api.Rec{three, one}))
		if got, n := wal.Read(b); !same(got, []api.Rec{one, two}) || n != len(front) {
			t.Errorf("%s between records: %v, %d", name, got, n)
		}
	}
}

func TestReadLooksAtNothingBehindTheLength(t *testing.T) {
	whole := rawAll([]api.Rec{one, two})
	for n := range len(whole) {
		want, bytes := []api.Rec(nil), 0
		if n >= len(rawAll([]api.Rec{one})) {
			want, bytes = []api.Rec{one}, len(rawAll([]api.Rec{one}))
		}
		if got, m := wal.Read(whole[:n]); !same(got, want) || m != bytes {
			t.Errorf("Read of %d bytes with others behind their length: %v, %d", n, got, m)
		}
	}
}

// P3.2: Open

func TestOpenRefusesATapeThatIsNone(t *testing.T) {
	for name, x := range map[string]*tape.Tape{"nil": nil, "zero": {}, "new": new(tape.Tape)} {
		if l, list, e := wal.Open(x); l != nil || len(list) != 0 || e != api.ErrNil {
			t.Errorf("Open of a %s tape: %v, %v, %v", name, l, list, e)
		}
	}
}

func TestOpenOfAnEmptyTape(t *testing.T) {
	x := newTape(t, 1)
	look(t, open(t, x, nil), x, nil, 0)
}

func TestOpenFindsWhatTheTapeBeginsWith(t *testing.T) {
	list := []api.Rec{one, two, three}
	b := rawAll(list)
	for _, tail := range [][]byte{nil, {0}, {0, 5, 1, 2}, make([]byte, 40), raw(0, nil), slices.Concat(raw(0, nil), raw(1, nil))} {
		for forced := range len(b) + len(tail) + 1 {
			x := newTape(t, 100)
			all := slices.Concat(b, tail)
			ok(t, "Append", x.Append(all[:forced]))
			ok(t, "Force", x.Force())
			ok(t, "Append", x.Append(all[forced:]))
			open(t, x, list)
			if x.Len() != len(b) || x.Forced() != len(b) {
				t.Fatalf("behind Open %d bytes, %d forced; want %d", x.Len(), x.Forced(), len(b))
			}
			ok(t, "Crash", x.Crash(0))
			open(t, x, list)
		}
	}
}

func TestOpenOfATapeThatHasNoRecord(t *testing.T) {
	x := newTape(t, 20)
	ok(t, "Swap", x.Swap([]byte{9, 9, 9, 9, 9, 9, 9, 9, 9, 9}))
	l := open(t, x, nil)
	if x.Len() != 0 || l.Room() != 20 {
		t.Errorf("%d bytes are left, room for %d", x.Len(), l.Room())
	}
}

func TestALogThatNoCallMade(t *testing.T) {
	for name, l := range map[string]*wal.Log{"nil": nil, "zero": {}, "new": new(wal.Log)} {
		for range 2 { // what is refused changes nothing
			for call, e := range map[string]api.Errno{
				"Add":                         l.Add(one, false),
				"Add, forced":                 l.Add(one, true),
				"Add of a kind that is none":  l.Add(api.Rec{}, true),
				"Add of what is too long":     l.Add(api.Rec{Kind: 1, Body: make([]byte, 2000)}, true),
				"Swap":                        l.Swap([]api.Rec{one}),
				"Swap for nothing":            l.Swap(nil),
				"Swap for a kind that's none": l.Swap([]api.Rec{{}}),
			} {
				if e != api.ErrNil {
					t.Errorf("%s, %s: %v", name, call, e)
				}
			}
			if len(l.Records()) != 0 || l.Room() != 0 {
				t.Errorf("%s: %v, %d", name, l.Records(), l.Room())
			}
		}
	}
}

// P3.2: Add

func TestAddPutsARecordBehindAllOthers(t *testing.T) {
	x := newTape(t, 100)
	l := open(t, x, nil)
	ok(t, "Add", l.Add(one, false))
	look(t, l, x, []api.Rec{one}, 0)
	ok(t, "Add", l.Add(two, true))
	look(t, l, x, []api.Rec{one, two}, 8+9) // all is forced, what was not till now too
	ok(t, "Add", l.Add(one, false))
	look(t, l, x, []api.Rec{one, two, one}, 8+9)
	ok(t, "Add", l.Add(three, false))
	look(t, l, x, []api.Rec{one, two, one, three}, 8+9)
	ok(t, "Add", l.Add(three, true))
	look(t, l, x, []api.Rec{one, two, one, three, three}, x.Len())
}

func TestAddGoesOnBehindWhatWasFound(t *testing.T) {
	x := newTape(t, 100)
	ok(t, "Swap", x.Swap(slices.Concat(rawAll([]api.Rec{one, two}), []byte{0, 3, 1, 2})))
	l := open(t, x, []api.Rec{one, two})
	ok(t, "Add", l.Add(three, false))
	look(t, l, x, []api.Rec{one, two, three}, 8+9)
	open(t, x, []api.Rec{one, two, three})
}

func TestAddRefuses(t *testing.T) {
	for _, force := range []bool{false, true} {
		x := newTape(t, 8+9+8)
		l := open(t, x, nil)
		ok(t, "Add", l.Add(one, true))
		ok(t, "Add", l.Add(two, false))
		for _, c := range []struct {
			kind, n int
			want    api.Errno
		}{
			{0, 1, api.ErrKind},
			{256, 1, api.ErrKind},
			{-1, 5000, api.ErrKind}, // ahead of ErrLong and of ErrFull
			{1, 1025, api.ErrLong},  // ahead of ErrFull
			{1, 1024, api.ErrFull},
			{1, 2, api.ErrFull}, // one byte more than there is room for
		} {
			if e := l.Add(api.Rec{Kind: c.kind, Body: make([]byte, c.n)}, force); e != c.want {
				t.Errorf("Add of kind %d with %d bytes: %v; want %v", c.kind, c.n, e, c.want)
			}
			look(t, l, x, []api.Rec{one, two}, 8)
		}
		ok(t, "Add of all there is room for", l.Add(one, force))
		look(t, l, x, []api.Rec{one, two, one}, map[bool]int{false: 8, true: 25}[force])
		if e := l.Add(three, force); e != api.ErrFull || l.Room() != 0 {
			t.Errorf("Add to a full log: %v, %d", e, l.Room())
		}
	}
}

func TestRoomCountsDown(t *testing.T) {
	x := newTape(t, api.MaxTape)
	l := open(t, x, nil)
	room := api.MaxTape
	for l.Add(api.Rec{Kind: 4, Body: make([]byte, 1024)}, false) == api.OK {
		room -= 1031
		if l.Room() != room {
			t.Fatalf("room for %d; want %d", l.Room(), room)
		}
	}
	if room != 65536%1031 || len(l.Records()) != 63 {
		t.Errorf("room for %d behind %d records", room, len(l.Records()))
	}
}

// P3.2: Swap

func TestSwapLaysOtherRecordsForced(t *testing.T) {
	for _, list := range [][]api.Rec{nil, {}, {three}, {two, one}, {one, two, three, one, one}} {
		x := newTape(t, 50)
		l := open(t, x, nil)
		ok(t, "Add", l.Add(one, true))
		ok(t, "Add", l.Add(two, false))
		ok(t, "Swap", l.Swap(list))
		look(t, l, x, list, len(rawAll(list)))
		ok(t, "Crash", x.Crash(0))
		l = open(t, x, list)
		ok(t, "Add", l.Add(three, false))
		look(t, l, x, append(slices.Clone(list), three), len(rawAll(list)))
	}
}

func TestSwapRefuses(t *testing.T) {
	noKind, long := api.Rec{Kind: 0, Body: make([]byte, 2000)}, api.Rec{Kind: 1, Body: make([]byte, 1025)}
	great := api.Rec{Kind: 1, Body: make([]byte, 1024)}
	many := slices.Repeat([]api.Rec{great}, 100)
	for i, c := range []struct {
		list []api.Rec
		want api.Errno
	}{
		{[]api.Rec{noKind}, api.ErrKind},
		{[]api.Rec{long}, api.ErrLong},
		{[]api.Rec{one, long, noKind}, api.ErrLong}, // the first record's
		{[]api.Rec{one, noKind, long}, api.ErrKind},
		{[]api.Rec{great, long}, api.ErrLong}, // ahead of ErrFull
		{append(slices.Clone(many), noKind), api.ErrKind},
		{append(slices.Clone(many), long, noKind), api.ErrLong},
		{[]api.Rec{great}, api.ErrFull},
		{many, api.ErrFull},
		{[]api.Rec{two, two, {Kind: 1, Body: []byte{1, 2, 3}}}, api.ErrFull}, // 28 bytes
		{slices.Repeat([]api.Rec{three}, 4), api.ErrFull},                    // 28 bytes
		{[]api.Rec{two, two, two, three}, api.ErrFull},                       // the first three fill it
	} {
		x := newTape(t, 27)
		l := open(t, x, nil)
		ok(t, "Add", l.Add(one, true))
		ok(t, "Add", l.Add(two, false))
		if e := l.Swap(c.list); e != c.want {
			t.Errorf("Swap %d: %v; want %v", i, e, c.want)
		}
		look(t, l, x, []api.Rec{one, two}, 8)
		ok(t, "Swap of all there is room for", l.Swap([]api.Rec{two, two, two}))
		look(t, l, x, []api.Rec{two, two, two}, 27)
	}
}

func TestALogIsSwappedForAFrontOfItself(t *testing.T) {
	x := newTape(t, 60)
	l := open(t, x, nil)
	for _, r := range []api.Rec{one, two, three} {
		ok(t, "Add", l.Add(r, false))
	}
	ok(t, "Swap", l.Swap(l.Records()[:2]))
	look(t, l, x, []api.Rec{one, two}, 17)
}

// P3.3, and P2: what was forced is found.

// A kept is what a log should have: its records, and how many of them are forced.
type kept struct {
	list   []api.Rec
	forced int
}

// behindACrash is what is left where so many bytes of what is not forced were kept.
func (k kept) behindACrash(keep int) []api.Rec {
	n := k.forced
	for n < len(k.list) && keep >= 7+len(k.list[n].Body) {
		keep -= 7 + len(k.list[n].Body)
		n++
	}
	return k.list[:n]
}

// record takes steps at random on a log, and says what it should have then.
func record(t *testing.T, r *rand.Rand, l *wal.Log, k kept) kept {
	t.Helper()
	for range 1 + r.Intn(8) {
		rec, force := randomRecs(r, 1, 12)[0], r.Intn(4) == 0
		if r.Intn(12) == 0 {
			k.list = randomRecs(r, r.Intn(3), 9)
			ok(t, "Swap", l.Swap(k.list))
			k.forced = len(k.list)
		} else if e := l.Add(rec, force); e == api.OK {
			k.list = append(slices.Clone(k.list), rec)
			if force {
				k.forced = len(k.list)
			}
		} else if e != api.ErrFull {
			t.Fatalf("Add: %v", e)
		}
	}
	return k
}

func TestBehindACrashWhatWasForcedIsFound(t *testing.T) {
	r := rand.New(rand.NewSource(3))
	for range 400 {
		x := newTape(t, 60+r.Intn(200))
		var k kept
		l := open(t, x, nil)
		for range 5 {
			k = record(t, r, l, k)
			keep := r.Intn(60) - 5
			ok(t, "Crash", x.Crash(keep))
			left := k.behindACrash(keep)
			if len(left) < k.forced {
				t.Fatalf("the model lost what was forced")
			}
			l = open(t, x, left)
			k = kept{list: left, forced: len(left)}
		}
	}
}

func TestACrashAtAnyByte(t *testing.T) {
	list := []api.Rec{one, three, two, one}
	for forced := range len(list) + 1 {
		for keep := range len(rawAll(list)) + 2 {
			x := newTape(t, 100)
			l := open(t, x, nil)
			for i, rec := range list {
				ok(t, "Add", l.Add(rec, i+1 == forced))
			}
			ok(t, "Crash", x.Crash(keep))
			open(t, x, kept{list, forced}.behindACrash(keep))
		}
	}
}

func TestListsThatAreKeptInALogAreFound(t *testing.T) {
	r := rand.New(rand.NewSource(4))
	for range 300 {
		x := newTape(t, 4096)
		l := open(t, x, nil)
		var lists [][][]byte
		forced := 0
		for i := range 1 + r.Intn(6) {
			list := make([][]byte, r.Intn(5))
			for j := range list {
				list[j] = bodyOf(r, r.Intn(20))
			}
			body, e := oct.Join(list)
			ok(t, "Join", e)
			force := r.Intn(3) == 0
			ok(t, "Add", l.Add(api.Rec{Kind: 1, Body: body}, force))
			lists = append(lists, list)
			if force {
				forced = i + 1
			}
		}
		ok(t, "Crash", x.Crash(r.Intn(200)))
		_, found, e := wal.Open(x)
		ok(t, "Open", e)
		if len(found) < forced || len(found) > len(lists) {
			t.Fatalf("%d lists are found, %d were forced, %d kept", len(found), forced, len(lists))
		}
		for i, rec := range found {
			if list, f := oct.Split(rec.Body); f != (api.Fault{}) || !slices.EqualFunc(list, lists[i], bytes.Equal) {
				t.Fatalf("the list %d is %v, %v; was %v", i, list, f, lists[i])
			}
		}
	}
}

// P3.4

func TestOpenedTwiceItIsAsOpenedOnce(t *testing.T) {
	r := rand.New(rand.NewSource(5))
	for range 300 {
		list := randomRecs(r, r.Intn(5), 10)
		x := newTape(t, 200)
		ok(t, "Append", x.Append(rawAll(list)))
		ok(t, "Append", x.Append(bodyOf(r, r.Intn(20))))
		_, once, e := wal.Open(x)
		ok(t, "Open", e)
		b, forced := x.Bytes(), x.Forced()
		_, twice, e := wal.Open(x)
		ok(t, "Open", e)
		if !same(once, twice) || !bytes.Equal(b, x.Bytes()) || forced != x.Forced() {
			t.Fatalf("once %v, %v; twice %v, %v", once, b, twice, x.Bytes())
		}
	}
}

// P3.5

func TestWhatIsWrittenIsRead(t *testing.T) {
	r := rand.New(rand.NewSource(6))
	for range 200 {
		list := randomRecs(r, r.Intn(6), []int{0, 3, 300, 1024}[r.Intn(4)])
		var b []byte
		for _, rec := range list {
			w, e := wal.Write(rec)
			ok(t, "Write", e)
			b = append(b, w...)
		}
		if got, n := wal.Read(b); !same(got, list) || n != len(b) {
			t.Fatalf("%d records are read of %d, %d bytes of %d", len(got), len(list), n, len(b))
		}
	}
}

func TestCutAnywhereItIsReadUpToTheRecordThatIsCut(t *testing.T) {
	r := rand.New(rand.NewSource(7))
	for range 40 {
		list := randomRecs(r, 5, 20)
		b := rawAll(list)
		for n := range len(b) + 1 {
			want := kept{list: list}.behindACrash(n)
			if got, m := wal.Read(slices.Clone(b[:n])); !same(got, want) || m != len(rawAll(want)) {
				t.Fatalf("cut at %d of %d: %d records, %d bytes; want %d", n, len(b), len(got), m, len(want))
			}
		}
	}
}

// P3.6

func TestARecordThatIsTurnedInOneByteIsReadNoMore(t *testing.T) {
	r := rand.New(rand.NewSource(8))
	for range 20 {
		list := randomRecs(r, 3, 6)
		at := len(rawAll(list[:1])) + 2 // of the second record's Kind
		for i := range 1 + len(list[1].Body) {
			for turn := 1; turn < 256; turn++ {
				b := rawAll(list)
				b[at+i] ^= byte(turn)
				if got, n := wal.Read(b); !same(got, list[:1]) || n != at-2 {
					t.Fatalf("the byte %d turned by %d: %v, %d", i, turn, got, n)
				}
			}
		}
	}
	body := bodyOf(r, 1024)
	for i := range 1025 {
		b := raw(200, body)
		b[2+i]++
		if got, n := wal.Read(b); len(got) != 0 || n != 0 {
			t.Fatalf("the byte %d of a full record turned: %d, %d", i, len(got), n)
		}
	}
}

// Rules 4 and 5: what is handed in is not changed and not kept, what is handed out is new.

func TestWhatIsHandedInIsNotKeptOrChanged(t *testing.T) {
	whole := []byte{1, 2, 3, 50, 51}
	list := []api.Rec{{Kind: 5, Body: whole[:3]}, two}
	x := newTape(t, 100)
	l := open(t, x, nil)
	b, e := wal.Write(list[0])
	ok(t, "Write", e)
	ok(t, "Add", l.Add(list[0], false))
	y := newTape(t, 100)
	m := open(t, y, nil)
	ok(t, "Swap", m.Swap(list))
	if !bytes.Equal(whole, []byte{1, 2, 3, 50, 51}) || list[0].Kind != 5 || !same(list[1:], []api.Rec{two}) {
		t.Errorf("what was handed in is %v, %v", whole, list)
	}
	clear(whole)
	list[0], list[1] = api.Rec{Kind: 9}, api.Rec{Kind: 9}
	want := api.Rec{Kind: 5, Body: []byte{1, 2, 3}}
	look(t, l, x, []api.Rec{want}, 0)
	look(t, m, y, []api.Rec{want, two}, y.Len())
	if !bytes.Equal(b, raw(5, []byte{1, 2, 3})) {
		t.Errorf("Write's answer hangs on what was handed in: %v", b)
	}
	text := rawAll([]api.Rec{want, two})
	before := slices.Clone(text)
	got, _ := wal.Read(text)
	if !bytes.Equal(text, before) {
		t.Errorf("Read changed what it was given")
	}
	clear(text)
	if !same(got, []api.Rec{want, two}) {
		t.Errorf("Read's answer hangs on what was handed in: %v", got)
	}
}

func TestWhatIsHandedOutIsNew(t *testing.T) {
	list := []api.Rec{two, {Kind: 3, Body: []byte{1, 2, 3}}, one}
	x := newTape(t, 100)
	ok(t, "Swap", x.Swap(rawAll(list)))
	l, opened, e := wal.Open(x)
	ok(t, "Open", e)
	first, second := l.Records(), l.Records()
	read, _ := wal.Read(x.Bytes())
	for _, answer := range [][]api.Rec{opened, first, read} {
		whole := answer[0].Body[:cap(answer[0].Body)]
		clear(whole) // neither another record's body nor the log may lie there
		if !same(answer[1:], list[1:]) {
			t.Errorf("two bodies of one answer share: %v", answer)
		}
		clear(answer)
		look(t, l, x, list, x.Len())
	}
	if !same(second, list) {
		t.Errorf("two answers share: %v", second)
	}
	a, _ := wal.Write(two)
	b, _ := wal.Write(two)
	clear(a)
	if !bytes.Equal(b, raw(2, two.Body)) {
		t.Errorf("two answers of Write share: %v", b)
	}
}

func TestLogsDoNotHangOnOneAnother(t *testing.T) {
	x, y := newTape(t, 60), newTape(t, 60)
	l, m := open(t, x, nil), open(t, y, nil)
	ok(t, "Add", l.Add(one, true))
	ok(t, "Add", m.Add(two, false))
	ok(t, "Swap", m.Swap(append(m.Records(), l.Records()...)))
	ok(t, "Add", l.Add(three, false))
	look(t, l, x, []api.Rec{one, three}, 8)
	look(t, m, y, []api.Rec{two, one}, 17)
}

// P1: every call ends and none panics.

func TestNoCallPanics(t *testing.T) {
	r := rand.New(rand.NewSource(9))
	numbers := []int{math.MinInt, -1, 0, 1, 255, 256, math.MaxInt}
	for _, room := range []int{1, 6, 7, 8, 30, api.MaxTape} {
		x := newTape(t, room)
		l := open(t, x, nil)
		for _, kind := range numbers {
			for _, n := range []int{0, 1, 1024, 1025} {
				rec := api.Rec{Kind: kind, Body: make([]byte, n)}
				wal.Write(rec)
				l.Add(rec, kind > n)
				l.Swap([]api.Rec{rec, rec})
				x.Append([]byte{0, 1, 1}) // a tape that others write on beneath the log
				l.Records()
				if l.Room() < 0 {
					t.Fatalf("room for %d", l.Room())
				}
				x.Crash(kind)
				l.Records()
				wal.Open(x)
			}
		}
		*x = tape.Tape{} // and one that is taken away
		if e := l.Add(one, true); e != api.ErrNil || len(l.Records()) != 0 || l.Room() != 0 || l.Swap(nil) != api.ErrNil {
			t.Errorf("a log whose tape is none: %v", e)
		}
	}
	for range 5000 {
		b := make([]byte, r.Intn(30))
		for i := range b { // small lengths are the ones that lead on
			b[i] = byte(r.Intn(3))
		}
		if list, n := wal.Read(b); !bytes.Equal(rawAll(list), b[:n]) {
			t.Fatalf("Read(%v) = %v, %d", b, list, n)
		}
	}
}
