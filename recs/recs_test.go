package recs_test

import (
	"bytes"
	"math"
	"math/rand"
	"slices"
	"testing"

	"troth/api"
	"troth/frame"
	"troth/path"
	"troth/psh"
	"troth/recs"
	"troth/sess"
)

var noMost = []int{math.MinInt, -65536, -1, 0}

func ok(t *testing.T, what string, e api.Errno) {
	t.Helper()
	if e != api.OK {
		t.Fatalf("%s: %v", what, e)
	}
}

func refused(t *testing.T, what string, e, want api.Errno) {
	t.Helper()
	if e != want {
		t.Errorf("%s: %v; want %v", what, e, want)
	}
}

// with is an open stream that these bytes came to.
func with(t *testing.T, b ...byte) *recs.Stream {
	t.Helper()
	s := recs.New()
	ok(t, "Put", s.Put(b))
	return s
}

// endedWith is one that these bytes came to, and that is ended.
func endedWith(t *testing.T, b ...byte) *recs.Stream {
	t.Helper()
	s := with(t, b...)
	ok(t, "End", s.End())
	return s
}

func took(t *testing.T, s *recs.Stream, most int, whole bool, want ...byte) {
	t.Helper()
	held := s.Held()
	if b, w, e := s.Get(most); e != api.OK || w != whole || !bytes.Equal(b, want) {
		t.Fatalf("Get(%d) = %v, %v, %v; want %v, %v", most, b, w, e, want, whole)
	}
	holds(t, s, held-len(want))
}

func tookNothing(t *testing.T, s *recs.Stream, most int, want api.Errno) {
	t.Helper()
	held := s.Held()
	if b, w, e := s.Get(most); e != want || w || len(b) != 0 {
		t.Fatalf("Get(%d) = %v, %v, %v; want %v", most, b, w, e, want)
	}
	holds(t, s, held)
}

func holds(t *testing.T, s *recs.Stream, want int) {
	t.Helper()
	if n := s.Held(); n != want {
		t.Fatalf("%d held; want %d", n, want)
	}
}

func written(t *testing.T, data []byte) []byte {
	t.Helper()
	b, e := recs.Write(data)
	ok(t, "Write", e)
	return b
}

// some is n bytes, those beside each other unlike.
func some(n int) []byte {
	b := make([]byte, n)
	for i := range b {
		b[i] = byte(i + i>>8)
	}
	return b
}

// P11.1

func TestTheExample(t *testing.T) {
	s := with(t, 0, 4, 7)
	tookNothing(t, s, 9, api.ErrEmpty)
	ok(t, "Put", s.Put([]byte{8}))
	took(t, s, 3, false, 0, 4, 7)
	took(t, s, 3, true, 8)
}

func TestNewIsOpenAndWithoutBytes(t *testing.T) {
	for name, s := range map[string]*recs.Stream{"New": recs.New(), "zero": {}, "new": new(recs.Stream)} {
		if s == nil {
			t.Fatalf("%s is nil", name)
		}
		holds(t, s, 0)
		tookNothing(t, s, 1, api.ErrEmpty)
		ok(t, "Put", s.Put([]byte{0, 3, 1, 0, 2}))
		took(t, s, 9, true, 0, 3, 1)
		took(t, s, 1, false, 0)
		took(t, s, 1, true, 2)
		ok(t, "End", s.End())
		tookNothing(t, s, 1, api.ErrNone)
	}
}

func TestTwoStreamsAreTwo(t *testing.T) {
	s, q := recs.New(), recs.New()
	ok(t, "Put", s.Put([]byte{0, 3}))
	ok(t, "End", s.End())
	took(t, s, 1, false, 0)
	holds(t, q, 0)
	ok(t, "Put", q.Put([]byte{0, 2}))
	took(t, q, 2, true, 0, 2)
}

func TestOfNil(t *testing.T) {
	var s *recs.Stream
	holds(t, s, 0)
	refused(t, "Put", s.Put([]byte{1}), api.ErrNil)
	refused(t, "Put of nothing", s.Put(nil), api.ErrNil)
	refused(t, "Put of too much", s.Put(make([]byte, 65537)), api.ErrNil)
	refused(t, "End", s.End(), api.ErrNil)
	for _, most := range append(noMost, 1, 2, math.MaxInt) {
		tookNothing(t, s, most, api.ErrNil)
	}
}

func TestWhatIsPutStandsBehindAllOthers(t *testing.T) {
	s := with(t, 0)
	ok(t, "Put", s.Put(nil))
	ok(t, "Put", s.Put([]byte{}))
	holds(t, s, 1)
	ok(t, "Put", s.Put([]byte{6, 1, 2}))
	ok(t, "Put", s.Put([]byte{3, 4, 0}))
	holds(t, s, 7)
	took(t, s, 9, true, 0, 6, 1, 2, 3, 4)
	ok(t, "Put", s.Put([]byte{2}))
	took(t, s, 9, true, 0, 2)
}

func TestPutRefusesMoreThan65536BytesInAll(t *testing.T) {
	for _, first := range []int{0, 1, 32768, 65535, 65536} {
		s := with(t, make([]byte, first)...)
		for _, more := range []int{65537, 65538, 131072} {
			refused(t, "Put", s.Put(make([]byte, more-first)), api.ErrFull)
			holds(t, s, first)
		}
		ok(t, "Put", s.Put(make([]byte, 65536-first)))
		holds(t, s, 65536)
		for _, more := range []int{1, 2, 65536} {
			refused(t, "Put", s.Put(make([]byte, more)), api.ErrFull)
		}
		ok(t, "Put of nothing", s.Put(nil))
		holds(t, s, 65536)
	}
}

func TestWhatIsTakenLeavesRoom(t *testing.T) {
	s := with(t, written(t, some(32765))...)
	ok(t, "Put", s.Put(make([]byte, 65536-32767)))
	took(t, s, 2, false, 127, 255)
	refused(t, "Put", s.Put([]byte{1, 2, 3}), api.ErrFull)
	ok(t, "Put", s.Put([]byte{1, 2}))
	refused(t, "Put", s.Put([]byte{3}), api.ErrFull)
	took(t, s, math.MaxInt, true, some(32765)...)
	refused(t, "Put", s.Put(make([]byte, 32766)), api.ErrFull)
	ok(t, "Put", s.Put(make([]byte, 32765)))
	holds(t, s, 65536)
}

func TestAnEndedStreamTakesNothingIn(t *testing.T) {
	for _, b := range [][]byte{nil, {0}, {0, 4, 1}, make([]byte, 65536)} {
		s := endedWith(t, b...)
		refused(t, "Put", s.Put([]byte{1}), api.ErrTrunc)
		refused(t, "Put of nothing", s.Put(nil), api.ErrTrunc)
		refused(t, "Put of too much", s.Put(make([]byte, 65537)), api.ErrTrunc)
		refused(t, "End", s.End(), api.ErrTrunc)
		refused(t, "Put", s.Put([]byte{1}), api.ErrTrunc)
		holds(t, s, len(b))
	}
}

func TestAnEndedStreamGivesWhatItHolds(t *testing.T) {
	s := endedWith(t, 0, 4, 7, 8, 0, 2)
	took(t, s, 3, false, 0, 4, 7)
	took(t, s, 3, true, 8)
	took(t, s, 3, true, 0, 2)
	tookNothing(t, s, 3, api.ErrNone)
}

func TestWriteIsTheLengthAndTheData(t *testing.T) {
	for _, n := range []int{0, 1, 2, 253, 254, 255, 256, 32510, 32511, 32764, 32765} {
		want := append([]byte{byte((n + 2) / 256), byte((n + 2) % 256)}, some(n)...)
		if b := written(t, some(n)); !bytes.Equal(b, want) {
			t.Fatalf("Write of %d bytes = %v; want %v", n, b, want)
		}
	}
	if b := written(t, nil); !bytes.Equal(b, []byte{0, 2}) {
		t.Errorf("Write of nothing = %v", b)
	}
	if b := written(t, []byte{7, 8}); !bytes.Equal(b, []byte{0, 4, 7, 8}) {
		t.Errorf("Write of 7 8 = %v", b)
	}
}

func TestWriteRefusesMoreThan32765Bytes(t *testing.T) {
	for _, n := range []int{32766, 32767, 32768, 65533, 65534, 65535, 65536, 98304} {
		if b, e := recs.Write(make([]byte, n)); e != api.ErrLong || len(b) != 0 {
			t.Errorf("Write of %d bytes = %d bytes, %v", n, len(b), e)
		}
	}
}

// P11.2

func TestGetOfNoBytes(t *testing.T) {
	within := with(t, 0, 4, 7)
	took(t, within, 2, false, 0, 4)
	full := with(t, make([]byte, 65536)...)
	for _, s := range []*recs.Stream{recs.New(), endedWith(t), with(t, 1), endedWith(t, 1), with(t, 0, 1), with(t, 255, 255), with(t, 0, 2), within, full} {
		for _, most := range noMost {
			tookNothing(t, s, most, api.ErrArg)
		}
	}
	took(t, within, 1, false, 7)
}

func TestGetAtARecordsBeginning(t *testing.T) {
	for _, most := range []int{1, 2, 3, 32767, math.MaxInt} {
		tookNothing(t, recs.New(), most, api.ErrEmpty)
		tookNothing(t, endedWith(t), most, api.ErrNone)
		for b := range 256 {
			tookNothing(t, with(t, byte(b)), most, api.ErrEmpty)
			tookNothing(t, endedWith(t, byte(b)), most, api.ErrTrunc)
		}
	}
}

func TestGetBehindARecord(t *testing.T) {
	s := with(t, 0, 3, 9)
	took(t, s, 9, true, 0, 3, 9)
	tookNothing(t, s, 1, api.ErrEmpty)
	ok(t, "Put", s.Put([]byte{0}))
	tookNothing(t, s, 1, api.ErrEmpty)
	ok(t, "End", s.End())
	tookNothing(t, s, 1, api.ErrTrunc)
	s = with(t, 0, 2, 0, 1)
	took(t, s, 9, true, 0, 2)
	tookNothing(t, s, 9, api.ErrGds)
	s = with(t, 0, 2)
	took(t, s, 2, true, 0, 2)
	ok(t, "End", s.End())
	tookNothing(t, s, 1, api.ErrNone)
}

func TestGetOfALengthThatIsNone(t *testing.T) {
	for length := range 65536 {
		front := []byte{byte(length >> 8), byte(length)}
		s := with(t, front...)
		if length%7 == 0 {
			s = endedWith(t, front...)
		}
		if length < 2 || length > 32767 {
			tookNothing(t, s, 1, api.ErrGds)
			tookNothing(t, s, 32768, api.ErrGds)
			continue
		}
		took(t, s, 1, false, front[0])
		took(t, s, 1, length == 2, front[1])
	}
}

func TestAWrongLengthComesAheadOfWhatLacks(t *testing.T) {
	for _, front := range [][]byte{{0, 0}, {0, 1}, {128, 0}, {128, 2}, {255, 255}} {
		for _, more := range []int{0, 1, 2, 40000} {
			b := slices.Concat(front, some(more))
			for _, most := range []int{1, 2, 3, 65536, math.MaxInt} {
				tookNothing(t, with(t, b...), most, api.ErrGds)
				tookNothing(t, endedWith(t, b...), most, api.ErrGds)
			}
		}
	}
	s := with(t, 0, 1)
	tookNothing(t, s, 1, api.ErrGds)
	ok(t, "Put", s.Put([]byte{0, 2}))
	tookNothing(t, s, 1, api.ErrGds)
}

func TestGetTakesAtMostWhatIsLeft(t *testing.T) {
	record := written(t, []byte{1, 2, 3})
	for most := 1; most < 9; most++ {
		s := with(t, slices.Concat(record, record)...)
		for range 2 {
			for at := 0; at < len(record); at += most {
				end := min(at+most, len(record))
				took(t, s, most, end == len(record), record[at:end]...)
			}
		}
		tookNothing(t, s, most, api.ErrEmpty)
	}
	s := with(t, slices.Concat(record, record)...)
	took(t, s, math.MaxInt, true, record...)
	took(t, s, 4, false, record[:4]...)
	took(t, s, math.MaxInt, true, record[4:]...)
}

func TestTheLongestRecord(t *testing.T) {
	record := written(t, some(32765))
	s := with(t, slices.Concat(record, record)...)
	took(t, s, 32768, true, record...)
	took(t, s, 32766, false, record[:32766]...)
	took(t, s, 32766, true, record[32766:]...)
	s = with(t, record[:32766]...)
	tookNothing(t, s, 32767, api.ErrEmpty)
	took(t, s, 32766, false, record[:32766]...)
	ok(t, "Put", s.Put(record[32766:]))
	took(t, s, 1, true, record[32766])
}

func TestWithinARecordNoLengthIsAsked(t *testing.T) {
	for _, data := range [][]byte{{0, 0, 0}, {0, 1, 2}, {255, 255, 255}, {128, 0, 0}} {
		s := with(t, written(t, data)...)
		took(t, s, 2, false, 0, 5)
		took(t, s, 1, false, data[0])
		took(t, s, 9, true, data[1:]...)
		s = with(t, written(t, data)...)
		took(t, s, 1, false, 0)
		took(t, s, 2, false, 5, data[0])
		took(t, s, 2, true, data[1:]...)
	}
}

func TestGetOfMoreThanItHolds(t *testing.T) {
	record := written(t, some(6))
	for n := 2; n < len(record); n++ {
		for taken := range n + 1 {
			open, ended := with(t, record[:n]...), endedWith(t, record[:n]...)
			if taken > 0 {
				took(t, open, taken, false, record[:taken]...)
				took(t, ended, taken, false, record[:taken]...)
			}
			for _, most := range []int{n - taken + 1, 8, math.MaxInt} {
				tookNothing(t, open, most, api.ErrEmpty)
				tookNothing(t, ended, most, api.ErrTrunc)
			}
			if taken < n {
				took(t, ended, n-taken, false, record[taken:n]...)
			}
			tookNothing(t, ended, 1, api.ErrTrunc)
			ok(t, "Put", open.Put(record[n:]))
			took(t, open, 8, true, record[taken:]...)
			tookNothing(t, open, 1, api.ErrEmpty)
		}
	}
}

func TestALengthThatWasTakenInPart(t *testing.T) {
	s := with(t, 1, 0)
	took(t, s, 1, false, 1)
	tookNothing(t, s, 2, api.ErrEmpty)
	took(t, s, 1, false, 0)
	ok(t, "Put", s.Put(some(300)))
	took(t, s, 253, false, some(253)...)
	took(t, s, 253, true, some(254)[253])
	holds(t, s, 46)
}

func TestOneByteIsNotTakenOfALengthThatLacksItsSecond(t *testing.T) {
	s := with(t, 0)
	tookNothing(t, s, 1, api.ErrEmpty)
	ok(t, "Put", s.Put([]byte{2}))
	took(t, s, 1, false, 0)
	took(t, s, 1, true, 2)
}

// P11.3, P11.4, P11.5

// plainStream is a stream as its words say.
type plainStream struct {
	came  []byte // all of it
	at    int    // so many were taken
	end   int    // of the record that it stands within, if that is behind at
	ended bool
}

func (m *plainStream) put(b []byte) api.Errno {
	if m.ended {
		return api.ErrTrunc
	}
	if len(m.came)-m.at+len(b) > 65536 {
		return api.ErrFull
	}
	m.came = append(m.came, b...)
	return api.OK
}

func (m *plainStream) stop() api.Errno {
	if m.ended {
		return api.ErrTrunc
	}
	m.ended = true
	return api.OK
}

func (m *plainStream) get(most int) ([]byte, bool, api.Errno) {
	held, end := m.came[m.at:], m.end
	lacks := api.ErrEmpty
	if m.ended {
		lacks = api.ErrTrunc
	}
	if most < 1 {
		return nil, false, api.ErrArg
	}
	if m.at == m.end {
		if m.ended && len(held) == 0 {
			return nil, false, api.ErrNone
		}
		if len(held) < 2 {
			return nil, false, lacks
		}
		n := 256*int(held[0]) + int(held[1])
		if n < 2 || n > 32767 {
			return nil, false, api.ErrGds
		}
		end = m.at + n
	}
	n := min(end-m.at, most)
	if len(held) < n {
		return nil, false, lacks
	}
	m.at, m.end = m.at+n, end
	return held[:n], m.at == end, api.OK
}

// step does one call to both, and holds the answers against each other.
func step(t *testing.T, r *rand.Rand, s *recs.Stream, m *plainStream, b []byte) {
	t.Helper()
	switch n := r.Intn(60); {
	case n < 20:
		refused(t, "Put", s.Put(b), m.put(b))
	case n == 20 && r.Intn(8) == 0:
		refused(t, "End", s.End(), m.stop())
	default:
		most := r.Intn(9) - 1
		got, whole, e := s.Get(most)
		want, w, code := m.get(most)
		if e != code || whole != w || !bytes.Equal(got, want) {
			t.Fatalf("Get(%d) = %v, %v, %v; want %v, %v, %v", most, got, whole, e, want, w, code)
		}
	}
	holds(t, s, len(m.came)-m.at)
}

func TestAStreamIsWhatItsWordsSay(t *testing.T) {
	r := rand.New(rand.NewSource(111))
	for range 600 {
		s, m := recs.New(), &plainStream{}
		for range 400 {
			b := make([]byte, r.Intn(5))
			for i := range b {
				b[i] = byte(r.Intn(6))
				if r.Intn(3) > 0 { // short records, mostly
					b[i] &= 4
				}
			}
			step(t, r, s, m, b)
		}
	}
}

func TestAStreamOfShortRecordsIsWhatItsWordsSay(t *testing.T) {
	r := rand.New(rand.NewSource(112))
	for range 300 {
		s, m := recs.New(), &plainStream{}
		var rest []byte
		for range 600 {
			for len(rest) < 8 {
				rest = append(rest, written(t, some(r.Intn(20)))...)
			}
			n := r.Intn(8)
			came := len(m.came)
			step(t, r, s, m, rest[:n])
			if len(m.came) > came {
				rest = rest[n:]
			}
		}
	}
}

// pieceOf is what Get answers; a piece has bytes, so that whoever takes pieces comes to an end.
func pieceOf(t *testing.T, s *recs.Stream, most int) ([]byte, bool, api.Errno) {
	t.Helper()
	b, whole, e := s.Get(most)
	if e == api.OK && len(b) == 0 {
		t.Fatalf("Get(%d) is a piece without bytes", most)
	}
	return b, whole, e
}

// inPieces hands b to s in pieces of at most put bytes, and takes pieces of at most get bytes as soon as they are there: the records, each whole.
func inPieces(t *testing.T, r *rand.Rand, s *recs.Stream, b []byte, put, get int) [][]byte {
	t.Helper()
	var list [][]byte
	var piece []byte
	for {
		next, whole, e := pieceOf(t, s, 1+r.Intn(get))
		switch {
		case e == api.ErrNone:
			return list
		case e == api.ErrEmpty && len(b) == 0:
			ok(t, "End", s.End())
		case e == api.ErrEmpty:
			n := min(1+r.Intn(put), len(b))
			ok(t, "Put", s.Put(b[:n]))
			b = b[n:]
		default:
			ok(t, "Get", e)
		}
		piece = append(piece, next...)
		if whole {
			list, piece = append(list, piece), nil
		}
	}
}

func TestThePiecesOfARecordAreThatRecord(t *testing.T) {
	r := rand.New(rand.NewSource(113))
	for range 300 {
		var all [][]byte
		for range r.Intn(12) {
			size := []int{1, 4, 300, 32766}[r.Intn(4)]
			data := make([]byte, r.Intn(size))
			r.Read(data)
			all = append(all, written(t, data))
		}
		sizes := []int{1, 3, 100, 1000, 32767, 32768}
		put, get := sizes[1+r.Intn(4)], sizes[r.Intn(6)]
		if got := inPieces(t, r, recs.New(), slices.Concat(all...), put, get); !slices.EqualFunc(got, all, bytes.Equal) {
			t.Fatalf("%d records came; want %d", len(got), len(all))
		}
	}
}

func TestAllWaysOfCuttingTwoRecords(t *testing.T) {
	b := slices.Concat(written(t, []byte{9, 0}), written(t, nil), written(t, []byte{2}))
	want := [][]byte{{0, 4, 9, 0}, {0, 2}, {0, 3, 2}}
	r := rand.New(rand.NewSource(114))
	for cuts := range 1 << (len(b) - 1) {
		for get := 1; get < 6; get++ {
			s, from := recs.New(), 0
			var rest [][]byte
			for at := 1; at <= len(b); at++ {
				if at == len(b) || cuts>>(at-1)&1 == 1 {
					ok(t, "Put", s.Put(b[from:at]))
					from = at
					rest = append(rest, drained(t, s, get)...)
				}
			}
			ok(t, "End", s.End())
			tookNothing(t, s, get, api.ErrNone)
			if got := slices.Concat(rest...); !bytes.Equal(got, b) {
				t.Fatalf("cut by %b: %v came; want %v", cuts, got, b)
			}
		}
		if got := inPieces(t, r, recs.New(), b, 1+cuts%4, 1+cuts%5); !slices.EqualFunc(got, want, bytes.Equal) {
			t.Fatalf("%v came; want %v", got, want)
		}
	}
}

// drained is what is told till there is no piece of that size; what was taken and what is held is what was held till then.
func drained(t *testing.T, s *recs.Stream, most int) [][]byte {
	t.Helper()
	held := s.Held()
	var list [][]byte
	for {
		b, _, e := pieceOf(t, s, most)
		if e != api.OK {
			refused(t, "Get", e, api.ErrEmpty)
			return list
		}
		held -= len(b)
		holds(t, s, held)
		list = append(list, b)
	}
}

func TestWhatWasRefusedChangesNothing(t *testing.T) {
	s := with(t, 0, 5, 1)
	for range 3 {
		tookNothing(t, s, 0, api.ErrArg)
		tookNothing(t, s, 4, api.ErrEmpty)
		refused(t, "Put", s.Put(make([]byte, 65534)), api.ErrFull)
	}
	took(t, s, 3, false, 0, 5, 1)
	for range 3 {
		tookNothing(t, s, -1, api.ErrArg)
		tookNothing(t, s, 1, api.ErrEmpty)
		refused(t, "Put", s.Put(make([]byte, 65537)), api.ErrFull)
	}
	ok(t, "Put", s.Put([]byte{2, 3, 0}))
	ok(t, "End", s.End())
	for range 3 {
		refused(t, "Put", s.Put([]byte{2}), api.ErrTrunc)
		refused(t, "End", s.End(), api.ErrTrunc)
	}
	took(t, s, 9, true, 2, 3)
	for range 3 {
		tookNothing(t, s, 1, api.ErrTrunc)
	}
	holds(t, s, 1)
}

// P3 of the whole, so far as logical records bear it

// line is one way of a session: messages go in as logical records, in chunks, and come out of a stream.
type line struct {
	t       *testing.T
	r       *rand.Rand
	from    *sess.End
	to      *sess.End
	there   *path.Path
	back    *path.Path
	waiting []byte // to be put in
	sent    []api.Msg
	stream  *recs.Stream
	piece   []byte
	came    []api.Msg
}

func newLine(t *testing.T, r *rand.Rand) *line {
	window := 1 + r.Intn(16)
	from, e := sess.New(1, window)
	ok(t, "New", e)
	to, e := sess.New(1, window)
	ok(t, "New", e)
	return &line{t: t, r: r, from: from, to: to, there: path.New(), back: path.New(), stream: recs.New()}
}

// say lets a message wait as a logical record.
func (l *line) say(m api.Msg) {
	l.t.Helper()
	b, e := psh.Write(m)
	ok(l.t, "Write", e)
	l.sent = append(l.sent, m)
	l.waiting = append(l.waiting, written(l.t, b)...)
}

// put puts a chunk of what waits into the session.
func (l *line) put() {
	n := min(1+l.r.Intn(40), len(l.waiting))
	if n > 0 && l.from.Put(l.waiting[:n]) == api.OK {
		l.waiting = l.waiting[n:]
	}
}

// tell puts an end's frames on a path; what a full one refuses is lost.
func (l *line) tell(e *sess.End, p *path.Path) {
	l.t.Helper()
	for _, f := range e.Frames() {
		b, code := frame.Write(f)
		ok(l.t, "Write", code)
		p.Send(b)
	}
}

// take takes any packet, which may be lost, doubled, or turned in one byte; whether it is a frame yet.
func (l *line) take(p *path.Path) (api.Frame, bool) {
	l.t.Helper()
	all := p.All()
	if len(all) == 0 {
		return api.Frame{}, false
	}
	n := l.r.Intn(len(all))
	if l.r.Intn(3) == 0 {
		p.Double(n)
	}
	if l.r.Intn(4) == 0 {
		ok(l.t, "Turn", p.Turn(n, l.r.Intn(len(all[n])), byte(1+l.r.Intn(255))))
	}
	b, e := p.Take(n)
	ok(l.t, "Take", e)
	f, e := frame.Read(b)
	return f, e == api.OK && l.r.Intn(4) > 0
}

// hear takes a packet at the other end, and reads all that came whole.
func (l *line) hear() {
	l.t.Helper()
	if f, there := l.take(l.there); there {
		b, e := l.to.On(f)
		ok(l.t, "On", e)
		ok(l.t, "Put", l.stream.Put(b))
	}
	for {
		b, whole, e := pieceOf(l.t, l.stream, 1+l.r.Intn(20))
		if e != api.OK {
			refused(l.t, "Get", e, api.ErrEmpty)
			return
		}
		if l.piece = append(l.piece, b...); whole {
			m, e := psh.Read(l.piece[2:])
			ok(l.t, "Read", e)
			l.came, l.piece = append(l.came, m), nil
		}
	}
}

// answer takes a packet at this end.
func (l *line) answer() {
	l.t.Helper()
	if f, there := l.take(l.back); there {
		_, e := l.from.On(f)
		ok(l.t, "On", e)
	}
}

func TestMessagesComeAsTheyWereSent(t *testing.T) {
	r := rand.New(rand.NewSource(115))
	for range 20 {
		l := newLine(t, r)
		for range 3000 {
			switch r.Intn(12) {
			case 0:
				l.say(api.Msg{Kind: api.MsgNames, Mine: 1 + uint32(r.Intn(9)), Your: uint32(len(l.sent))})
			case 1:
				l.say(api.Msg{Kind: 1 + r.Intn(11), Luw: api.Luw{Unit: r.Intn(6), Life: r.Uint32(), Seq: 1 + uint32(len(l.sent))}})
			case 2, 3:
				l.put()
			case 4:
				l.tell(l.from, l.there)
			case 5:
				l.tell(l.to, l.back)
			case 6, 7:
				l.answer()
			default:
				l.hear()
			}
			if n := len(l.came); n > len(l.sent) || !slices.Equal(l.came, l.sent[:n]) {
				t.Fatalf("%v came; want a front of %v", l.came, l.sent)
			}
		}
		if len(l.came) == 0 {
			t.Fatal("nothing came")
		}
	}
}

// Rule 5 of the document: what is handed in and out.

func TestWhatIsHandedInIsNeitherChangedNorKept(t *testing.T) {
	b := []byte{0, 4, 7, 8}
	s := with(t, b...)
	if !bytes.Equal(b, []byte{0, 4, 7, 8}) {
		t.Errorf("Put made %v of it", b)
	}
	clear(b)
	took(t, s, 9, true, 0, 4, 7, 8)
	data := []byte{7, 8}
	record := written(t, data)
	if !bytes.Equal(data, []byte{7, 8}) {
		t.Errorf("Write made %v of it", data)
	}
	clear(data)
	if !bytes.Equal(record, []byte{0, 4, 7, 8}) {
		t.Errorf("the record is %v behind it", record)
	}
}

func TestWhatIsHandedOutIsNew(t *testing.T) {
	s := with(t, 0, 6, 1, 2, 3, 4, 0, 2)
	first, _, e := s.Get(3)
	ok(t, "Get", e)
	second, _, e := s.Get(2)
	ok(t, "Get", e)
	for _, b := range [][]byte{first, second} {
		whole := b[:cap(b)]
		for i := range whole {
			whole[i] = 255
		}
	}
	took(t, s, 9, true, 4)
	if second[0] != 255 || second[1] != 255 || !bytes.Equal(first, []byte{255, 255, 255}) {
		t.Errorf("%v, %v", first, second)
	}
	ok(t, "Put", s.Put([]byte{0, 3, 5}))
	took(t, s, 9, true, 0, 2)
	took(t, s, 9, true, 0, 3, 5)
	data := []byte{5}
	record := written(t, data)
	clear(record)
	if data[0] != 5 || !bytes.Equal(written(t, data), []byte{0, 3, 5}) {
		t.Errorf("data is %v behind it", data)
	}
}

func TestWhatLiesBehindALengthIsNotRead(t *testing.T) {
	b := []byte{0, 3, 9, 0, 2}
	s := recs.New()
	ok(t, "Put", s.Put(b[:2]))
	holds(t, s, 2)
	tookNothing(t, s, 3, api.ErrEmpty)
	ok(t, "Put", s.Put([]byte{1, 2}))
	if !bytes.Equal(written(t, b[:1]), []byte{0, 3, 0}) || !bytes.Equal(b, []byte{0, 3, 9, 0, 2}) {
		t.Errorf("it is %v", b)
	}
	took(t, s, 9, true, 0, 3, 1)
}

func TestACopiedStreamIsOneOfItsOwn(t *testing.T) {
	s := with(t, 0, 6, 1, 2)
	took(t, s, 2, false, 0, 6)
	q := *s
	ok(t, "Put", s.Put([]byte{3, 4}))
	ok(t, "Put", q.Put([]byte{5}))
	took(t, s, 9, true, 1, 2, 3, 4)
	ok(t, "End", s.End())
	ok(t, "Put", q.Put([]byte{6, 0, 2}))
	took(t, &q, 9, true, 1, 2, 5, 6)
	p := q
	b, _, e := q.Get(9)
	ok(t, "Get", e)
	clear(b)
	took(t, &p, 9, true, 0, 2)
}

// P1: every call ends and none panics.

func TestNoCallPanics(t *testing.T) {
	numbers := []int{math.MinInt, math.MinInt32, -1, 0, 1, 2, 3, 65535, 65536, math.MaxInt32, math.MaxInt}
	for _, s := range []*recs.Stream{nil, {}, recs.New(), with(t, 0), with(t, 0, 0), with(t, 255, 255), with(t, make([]byte, 65536)...), endedWith(t, 0, 9, 1)} {
		for _, most := range numbers {
			s.Get(most)
			s.Put([]byte{0, 3, 1})
			s.Get(most)
			s.Put(make([]byte, 65536))
			if n := s.Held(); n < 0 || n > 65536 {
				t.Fatalf("%d held", n)
			}
		}
		s.End()
		for _, most := range numbers {
			s.Get(most)
			s.Put(nil)
		}
	}
}
