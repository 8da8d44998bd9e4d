package sess_test

import (
	"bytes"
	"math"
	"math/rand"
	"slices"
	"testing"

	"troth/api"
	"troth/conv"
	"troth/frame"
	"troth/path"
	"troth/sess"
)

func ok(t *testing.T, what string, e api.Errno) {
	t.Helper()
	if e != api.OK {
		t.Fatalf("%s: %v", what, e)
	}
}

func refused(t *testing.T, what string, e, want api.Errno) {
	t.Helper()
	if e != want {
		t.Errorf("%s: %v; want %v", what, e, want)
	}
}

// with is an end that such members were put in.
func with(t *testing.T, session uint32, window int, members ...[]byte) *sess.End {
	t.Helper()
	e, code := sess.New(session, window)
	ok(t, "New", code)
	for _, b := range members {
		ok(t, "Put", e.Put(b))
	}
	return e
}

// numbered is n members, each with its number in it.
func numbered(n int) [][]byte {
	list := make([][]byte, n)
	for i := range list {
		list[i] = []byte{byte(i), byte(i >> 8), 1}
	}
	return list
}

func same(f, g api.Frame) bool {
	return f.Session == g.Session && f.Seq == g.Seq && f.Ack == g.Ack && bytes.Equal(f.Data, g.Data)
}

// look holds all that an end tells against what it has: its members from that number on, and what came.
func look(t *testing.T, e *sess.End, session uint32, window, first, came int, members ...[]byte) {
	t.Helper()
	want := []api.Frame{{Session: session, Ack: came}}
	if len(members) > 0 {
		want = nil
	}
	for i, b := range members[:min(window, len(members))] {
		want = append(want, api.Frame{Session: session, Seq: first + i, Ack: came, Data: b})
	}
	if got := e.Frames(); !slices.EqualFunc(got, want, same) {
		t.Fatalf("Frames = %v; want %v", got, want)
	}
	if e.Waiting() != len(members) || e.Came() != came {
		t.Fatalf("Waiting %d, Came %d; want %d, %d", e.Waiting(), e.Came(), len(members), came)
	}
}

func out(t *testing.T, e *sess.End, f api.Frame, want []byte) {
	t.Helper()
	if b, code := e.On(f); code != api.OK || !bytes.Equal(b, want) {
		t.Fatalf("On(%v) = %v, %v; want %v", f, b, code, want)
	}
}

func nothing(t *testing.T, e *sess.End, f api.Frame, want api.Errno) {
	t.Helper()
	if b, code := e.On(f); code != want || len(b) != 0 {
		t.Errorf("On(%v) = %v, %v; want nothing, %v", f, b, code, want)
	}
}

// P9.1

func TestTheExample(t *testing.T) {
	a, b, c := []byte("a"), []byte("b"), []byte("c")
	e := with(t, 1, 2, a, b, c)
	want := []api.Frame{{Session: 1, Seq: 0, Data: a}, {Session: 1, Seq: 1, Data: b}}
	if got := e.Frames(); !slices.EqualFunc(got, want, same) {
		t.Errorf("Frames = %v", got)
	}
	out(t, e, api.Frame{Session: 1, Ack: 1}, nil)
	look(t, e, 1, 2, 1, 0, b, c)
}

func TestNewIsAnEndWithAnEmptyQueue(t *testing.T) {
	for _, session := range []uint32{1, 2, 1 << 31, math.MaxUint32} {
		for window := 1; window <= 16; window++ {
			e := with(t, session, window)
			if e == nil {
				t.Fatalf("New(%d, %d) is nil", session, window)
			}
			look(t, e, session, window, 0, 0)
			ok(t, "Put", e.Put([]byte{1}))
			look(t, e, session, window, 0, 0, []byte{1})
		}
	}
}

func TestNewRefuses(t *testing.T) {
	for _, window := range []int{math.MinInt, -1, 0, 17, 18, 256 + 1, math.MaxInt} {
		for _, session := range []uint32{0, 1, math.MaxUint32} {
			if e, code := sess.New(session, window); code != api.ErrArg || e != nil {
				t.Errorf("New(%d, %d) = %v, %v", session, window, e, code)
			}
		}
	}
	for window := 1; window <= 16; window++ {
		if e, code := sess.New(0, window); code != api.ErrArg || e != nil {
			t.Errorf("New(0, %d) = %v, %v", window, e, code)
		}
	}
}

func TestTwoEndsAreTwo(t *testing.T) {
	d, e := with(t, 1, 4, []byte{1}), with(t, 1, 4)
	look(t, e, 1, 4, 0, 0)
	out(t, e, d.Frames()[0], []byte{1})
	look(t, d, 1, 4, 0, 0, []byte{1})
	look(t, e, 1, 4, 0, 1)
}

func TestOfNilAndOfWhatNoCallMade(t *testing.T) {
	for name, e := range map[string]*sess.End{"nil": nil, "zero": {}, "new": new(sess.End)} {
		for range 2 {
			for _, b := range [][]byte{nil, {}, {1}, make([]byte, 257)} {
				refused(t, name+": Put", e.Put(b), api.ErrNil)
			}
			for _, n := range []int{math.MinInt, -1, 0, 1, 65535, math.MaxInt} {
				for _, session := range []uint32{0, 1} {
					nothing(t, e, api.Frame{Session: session, Seq: n, Ack: n, Data: []byte{1}}, api.ErrNil)
					nothing(t, e, api.Frame{Session: session, Seq: 0, Ack: n}, api.ErrNil)
				}
			}
			if list := e.Frames(); len(list) != 0 || e.Waiting() != 0 || e.Came() != 0 {
				t.Errorf("%s: Frames %v, Waiting %d, Came %d", name, list, e.Waiting(), e.Came())
			}
		}
	}
}

func TestPutPutsAtTheQueuesEnd(t *testing.T) {
	list := [][]byte{{3}, {1, 2}, {3}, bytes.Repeat([]byte{7}, 255), bytes.Repeat([]byte{8}, 256), {0}}
	look(t, with(t, 1, 16, list...), 1, 16, 0, 0, list...)
}

func TestPutRefusesNothingAndTooMuch(t *testing.T) {
	e := with(t, 1, 16, []byte{1})
	refused(t, "nil", e.Put(nil), api.ErrArg)
	refused(t, "empty", e.Put([]byte{}), api.ErrArg)
	for _, n := range []int{257, 258, 512, 65536} {
		refused(t, "too much", e.Put(make([]byte, n)), api.ErrLong)
	}
	look(t, e, 1, 16, 0, 0, []byte{1})
}

func TestPutRefusesMoreThan64Members(t *testing.T) {
	e := with(t, 1, 16, numbered(64)...)
	for _, b := range [][]byte{{1}, make([]byte, 256)} {
		refused(t, "Put", e.Put(b), api.ErrFull)
	}
	refused(t, "Put of nothing", e.Put(nil), api.ErrArg)
	refused(t, "Put of too much", e.Put(make([]byte, 257)), api.ErrLong)
	look(t, e, 1, 16, 0, 0, numbered(64)...)
	out(t, e, api.Frame{Session: 1, Ack: 3}, nil)
	for _, b := range numbered(67)[64:] {
		ok(t, "Put", e.Put(b))
	}
	refused(t, "Put", e.Put([]byte{1}), api.ErrFull)
	look(t, e, 1, 16, 3, 0, numbered(67)[3:]...)
}

// worn is an end through whose queue n members went.
func worn(t *testing.T, n int) *sess.End {
	t.Helper()
	e := with(t, 1, 16)
	for i := range n {
		ok(t, "Put", e.Put([]byte{1}))
		out(t, e, api.Frame{Session: 1, Ack: i + 1}, nil)
	}
	look(t, e, 1, 16, n, 0)
	return e
}

func TestPutRefusesNumbersAbove65534(t *testing.T) {
	e := worn(t, 65534)
	ok(t, "Put of the last", e.Put([]byte{2}))
	for range 2 {
		refused(t, "Put", e.Put([]byte{3}), api.ErrSeq)
		refused(t, "Put of nothing", e.Put(nil), api.ErrArg)
		refused(t, "Put of too much", e.Put(make([]byte, 257)), api.ErrLong)
	}
	look(t, e, 1, 16, 65534, 0, []byte{2})
	nothing(t, e, api.Frame{Session: 1, Ack: 65536}, api.ErrSeq)
	out(t, e, api.Frame{Session: 1, Ack: 65535}, nil)
	look(t, e, 1, 16, 65535, 0)
	refused(t, "Put into the empty queue", e.Put([]byte{3}), api.ErrSeq)
	nothing(t, e, api.Frame{Session: 1, Ack: 65536}, api.ErrSeq)
	out(t, e, api.Frame{Session: 1, Ack: 65535}, nil)
	look(t, e, 1, 16, 65535, 0)
}

func TestAFullQueueComesAheadOfTheNumber(t *testing.T) {
	e := worn(t, 65535-64)
	for _, b := range numbered(64) {
		ok(t, "Put", e.Put(b))
	}
	refused(t, "Put", e.Put([]byte{1}), api.ErrFull)
	out(t, e, api.Frame{Session: 1, Ack: 65535 - 63}, nil)
	refused(t, "Put", e.Put([]byte{1}), api.ErrSeq)
	look(t, e, 1, 16, 65535-63, 0, numbered(64)[1:]...)
}

// P9.2

func TestFramesAreTheFirstMembersUpToTheWindow(t *testing.T) {
	for window := 1; window <= 16; window++ {
		for _, n := range []int{1, 2, 3, window - 1, window, window + 1, 17, 63, 64} {
			e := with(t, 9, window, numbered(n)...)
			look(t, e, 9, window, 0, 0, numbered(n)...)
			if got := e.Frames(); len(got) != min(window, n) && n > 0 {
				t.Fatalf("%d frames of %d members, window %d", len(got), n, window)
			}
			for i := range n {
				out(t, e, api.Frame{Session: 9, Seq: i, Ack: i + 1, Data: []byte{5}}, []byte{5})
				look(t, e, 9, window, i+1, i+1, numbered(n)[i+1:]...)
			}
		}
	}
}

func TestFramesOfAnEmptyQueue(t *testing.T) {
	e := with(t, 7, 3, numbered(5)...)
	out(t, e, api.Frame{Session: 7, Seq: 0, Ack: 5, Data: []byte{1}}, []byte{1})
	got := e.Frames()
	if len(got) != 1 || got[0].Session != 7 || got[0].Seq != 0 || got[0].Ack != 1 || len(got[0].Data) != 0 {
		t.Errorf("Frames = %v", got)
	}
}

func TestFramesChangeNothing(t *testing.T) {
	e := with(t, 1, 2, numbered(4)...)
	for range 100 {
		look(t, e, 1, 2, 0, 0, numbered(4)...)
	}
}

// P9.3, P9.7

func TestOnOfAnotherSession(t *testing.T) {
	e := with(t, 5, 2, numbered(3)...)
	for _, session := range []uint32{0, 1, 4, 6, 5 << 8, math.MaxUint32} {
		for _, ack := range []int{math.MinInt, -1, 0, 1, 3, 4, math.MaxInt} {
			for _, seq := range []int{-1, 0, 1} {
				nothing(t, e, api.Frame{Session: session, Seq: seq, Ack: ack, Data: []byte{1}}, api.ErrDown)
				nothing(t, e, api.Frame{Session: session, Seq: seq, Ack: ack}, api.ErrDown)
			}
		}
	}
	look(t, e, 5, 2, 0, 0, numbered(3)...)
}

func TestOnOfAnAckOfNoMember(t *testing.T) {
	for n := range 4 {
		e := with(t, 1, 2, numbered(n)...)
		for _, ack := range []int{math.MinInt, -65536, -1, n + 1, n + 2, 65535, 65536, math.MaxInt} {
			nothing(t, e, api.Frame{Session: 1, Ack: ack}, api.ErrSeq)
			nothing(t, e, api.Frame{Session: 1, Ack: ack, Data: []byte{1}}, api.ErrSeq)
			nothing(t, e, api.Frame{Session: 1, Seq: 7, Ack: ack, Data: []byte{1}}, api.ErrSeq)
		}
		look(t, e, 1, 2, 0, 0, numbered(n)...)
	}
}

func TestOnLetsTheAcknowledgedLeave(t *testing.T) {
	for ack := range 6 {
		e := with(t, 1, 2, numbered(5)...)
		out(t, e, api.Frame{Session: 1, Ack: ack}, nil)
		look(t, e, 1, 2, ack, 0, numbered(5)[ack:]...)
		for old := range ack + 1 { // an Ack below the first number is passed by
			out(t, e, api.Frame{Session: 1, Ack: old}, nil)
			look(t, e, 1, 2, ack, 0, numbered(5)[ack:]...)
		}
	}
}

func TestAnOldAckKeepsNoDataBack(t *testing.T) {
	e := with(t, 1, 2, numbered(3)...)
	out(t, e, api.Frame{Session: 1, Ack: 2}, nil)
	out(t, e, api.Frame{Session: 1, Seq: 0, Ack: 1, Data: []byte{7}}, []byte{7})
	out(t, e, api.Frame{Session: 1, Seq: 1, Ack: 0, Data: []byte{8}}, []byte{8})
	look(t, e, 1, 2, 2, 2, numbered(3)[2:]...)
}

func TestOnGivesWhatIsExpected(t *testing.T) {
	e := with(t, 1, 2)
	for i, b := range [][]byte{{1}, {0}, {1, 2, 3}, make([]byte, 256), make([]byte, 257)} {
		out(t, e, api.Frame{Session: 1, Seq: i, Data: b}, b)
		look(t, e, 1, 2, 0, i+1)
		out(t, e, api.Frame{Session: 1, Seq: i, Data: b}, nil)
		look(t, e, 1, 2, 0, i+1)
	}
}

func TestOnGivesNothingElse(t *testing.T) {
	e := with(t, 1, 2, numbered(4)...)
	out(t, e, api.Frame{Session: 1, Seq: 0, Data: []byte{1}}, []byte{1})
	for i, seq := range []int{math.MinInt, -1, 0, 2, 3, 65535, 65536, 65537, math.MaxInt} {
		ack := i / 3
		out(t, e, api.Frame{Session: 1, Seq: seq, Ack: ack, Data: []byte{2}}, nil)
		look(t, e, 1, 2, ack, 1, numbered(4)[ack:]...)
	}
	out(t, e, api.Frame{Session: 1, Seq: 1, Ack: 3}, nil)
	out(t, e, api.Frame{Session: 1, Seq: 1, Ack: 3, Data: []byte{}}, nil)
	look(t, e, 1, 2, 3, 1, numbered(4)[3:]...)
	out(t, e, api.Frame{Session: 1, Seq: 1, Ack: 4, Data: []byte{3}}, []byte{3})
	look(t, e, 1, 2, 4, 2)
}

func TestOnAtTheLastNumber(t *testing.T) {
	e := with(t, 1, 2, numbered(4)...)
	for i := range 65535 {
		out(t, e, api.Frame{Session: 1, Seq: i, Data: []byte{1}}, []byte{1})
	}
	look(t, e, 1, 2, 0, 65535, numbered(4)...)
	nothing(t, e, api.Frame{Session: 1, Seq: 65535, Ack: 3, Data: []byte{1}}, api.ErrSeq)
	look(t, e, 1, 2, 3, 65535, numbered(4)[3:]...)
	nothing(t, e, api.Frame{Session: 1, Seq: 65535, Ack: 1, Data: []byte{1}}, api.ErrSeq)
	nothing(t, e, api.Frame{Session: 1, Seq: 65535, Ack: 5, Data: []byte{1}}, api.ErrSeq)
	look(t, e, 1, 2, 3, 65535, numbered(4)[3:]...)
	out(t, e, api.Frame{Session: 1, Seq: 65535, Ack: 3}, nil)
	out(t, e, api.Frame{Session: 1, Seq: 0, Ack: 3, Data: []byte{1}}, nil)
	out(t, e, api.Frame{Session: 1, Seq: 65534, Ack: 3, Data: []byte{1}}, nil)
	out(t, e, api.Frame{Session: 1, Seq: 65536, Ack: 4, Data: []byte{1}}, nil)
	look(t, e, 1, 2, 4, 65535)
}

// P9.4: look asks Waiting and Came behind every step

// plainEnd is an end as its words say.
type plainEnd struct {
	session  uint32
	queue    [][]byte
	first    int
	expected int
}

func (m *plainEnd) put(b []byte) api.Errno {
	switch {
	case len(b) == 0:
		return api.ErrArg
	case len(b) > 256:
		return api.ErrLong
	case len(m.queue) == 64:
		return api.ErrFull
	}
	m.queue = append(m.queue, slices.Clone(b))
	return api.OK
}

func (m *plainEnd) on(f api.Frame) ([]byte, api.Errno) {
	if f.Session != m.session {
		return nil, api.ErrDown
	}
	if f.Ack < 0 || f.Ack > m.first+len(m.queue) {
		return nil, api.ErrSeq
	}
	for m.first < f.Ack {
		m.queue = m.queue[1:]
		m.first++
	}
	if len(f.Data) > 0 && f.Seq == m.expected {
		m.expected++
		return f.Data, api.OK
	}
	return nil, api.OK
}

func TestAnEndIsWhatItsWordsSay(t *testing.T) {
	r := rand.New(rand.NewSource(91))
	for range 60 {
		window := 1 + r.Intn(16)
		e, m := with(t, 3, window), &plainEnd{session: 3}
		puts := 3 + r.Intn(6) // of 10: some runs come to a full queue, others are mostly empty
		for range 800 {
			b := make([]byte, r.Intn(4))
			r.Read(b)
			if r.Intn(40) == 0 {
				b = make([]byte, 255+r.Intn(3))
			}
			if r.Intn(10) < puts {
				refused(t, "Put", e.Put(b), m.put(b))
			} else {
				f := api.Frame{Session: 3, Seq: m.expected + r.Intn(5) - 2, Ack: m.first + r.Intn(7) - 3, Data: b}
				if r.Intn(20) == 0 {
					f.Session = r.Uint32()
				}
				got, code := e.On(f)
				want, wanted := m.on(f)
				if code != wanted || !bytes.Equal(got, want) {
					t.Fatalf("On(%v) = %v, %v; want %v, %v", f, got, code, want, wanted)
				}
			}
			look(t, e, 3, window, m.first, m.expected, m.queue...)
		}
	}
}

// P9.5

// isFront tells whether came is how sent begins.
func isFront(came, sent [][]byte) bool {
	return len(came) <= len(sent) && slices.EqualFunc(came, sent[:len(came)], bytes.Equal)
}

// talk is two ends and two ways that lose, double and reorder.
type talk struct {
	t    *testing.T
	r    *rand.Rand
	ends [2]*sess.End
	ways [2][]api.Frame // to that end
	sent [2][][]byte    // put in at that end
	came [2][][]byte    // come out at that end
}

func newTalk(t *testing.T, r *rand.Rand, window int) *talk {
	return &talk{t: t, r: r, ends: [2]*sess.End{with(t, 77, window), with(t, 77, 1+r.Intn(16))}}
}

func (k *talk) put(i int) {
	b := make([]byte, 1+k.r.Intn(6))
	k.r.Read(b)
	if k.ends[i].Put(b) == api.OK {
		k.sent[i] = append(k.sent[i], b)
	}
}

func (k *talk) send(i int) {
	k.ways[1-i] = append(k.ways[1-i], k.ends[i].Frames()...)
}

func (k *talk) hand(i int, f api.Frame) {
	k.t.Helper()
	b, code := k.ends[i].On(f)
	ok(k.t, "On", code)
	if len(b) > 0 {
		k.came[i] = append(k.came[i], b)
	}
	if !isFront(k.came[i], k.sent[1-i]) || k.ends[i].Came() != len(k.came[i]) {
		k.t.Fatalf("%v came; %v was sent", k.came[i], k.sent[1-i])
	}
}

// take takes any frame of a way; it stays there if it is doubled, and goes nowhere if it is lost.
func (k *talk) take(i int) {
	k.t.Helper()
	if len(k.ways[i]) == 0 {
		return
	}
	n := k.r.Intn(len(k.ways[i]))
	f := k.ways[i][n]
	if k.r.Intn(3) > 0 {
		k.ways[i] = slices.Delete(k.ways[i], n, n+1)
	}
	if k.r.Intn(4) > 0 {
		k.hand(i, f)
	}
}

func TestWhatComesIsAFrontOfWhatWasPutIn(t *testing.T) {
	r := rand.New(rand.NewSource(95))
	for range 150 {
		k := newTalk(t, r, 1+r.Intn(16))
		for range 1500 {
			i := r.Intn(2)
			switch r.Intn(8) {
			case 0, 1:
				k.put(i)
			case 2:
				k.send(i)
			default:
				k.take(i)
			}
		}
		if len(k.came[0]) == 0 || len(k.came[1]) == 0 {
			t.Fatalf("nothing came")
		}
		k.settle()
	}
}

// P9.6

// settle hands all frames over, both ways, as often as there are members, and once more.
func (k *talk) settle() {
	k.t.Helper()
	for range k.ends[0].Waiting() + k.ends[1].Waiting() + 1 {
		for i := range 2 {
			for _, f := range k.ends[i].Frames() {
				k.hand(1-i, f)
			}
		}
	}
	for i := range 2 {
		if len(k.came[i]) != len(k.sent[1-i]) || k.ends[i].Waiting() != 0 {
			k.t.Fatalf("%d of %d came at %d, and %d wait", len(k.came[i]), len(k.sent[1-i]), i, k.ends[i].Waiting())
		}
	}
}

func TestAllOfItComes(t *testing.T) {
	r := rand.New(rand.NewSource(96))
	for window := 1; window <= 16; window++ {
		for _, n := range []int{0, 1, 2, 15, 16, 17, 63, 64} {
			for _, m := range []int{0, 1, 64} {
				k := newTalk(t, r, window)
				for range n {
					k.put(0)
				}
				for range m {
					k.put(1)
				}
				k.settle()
			}
		}
	}
}

func TestAllOfItComesUpToTheLastNumber(t *testing.T) {
	a, b := with(t, 1, 16), with(t, 1, 16)
	put, came := 0, 0
	for came < 65535 {
		for put < 65535 && a.Waiting() < 64 {
			ok(t, "Put", a.Put([]byte{byte(put), byte(put >> 8)}))
			put++
		}
		for _, f := range a.Frames() {
			out(t, b, f, []byte{byte(came), byte(came >> 8)})
			came++
		}
		out(t, a, b.Frames()[0], nil)
	}
	refused(t, "Put", a.Put([]byte{1}), api.ErrSeq)
	look(t, a, 1, 16, 65535, 0)
	look(t, b, 1, 16, 0, 65535)
	ok(t, "Put", b.Put([]byte{1}))
	out(t, a, b.Frames()[0], []byte{1})
	out(t, b, a.Frames()[0], nil)
	look(t, b, 1, 16, 1, 65535)
}

// P3 of the whole, so far as sessions and conversations bear it

// post is how two ends send each other packets, over paths that also turn a byte of one.
type post struct {
	talk
	paths [2]*path.Path // to that end
}

// send puts all that the end tells on the path; what a full one refuses is lost.
func (p *post) send(i int) {
	p.t.Helper()
	for _, f := range p.ends[i].Frames() {
		b, code := frame.Write(f)
		ok(p.t, "Write", code)
		p.paths[1-i].Send(b)
	}
}

// take takes any packet; it may be lost, doubled, or turned in one byte.
func (p *post) take(i int) {
	p.t.Helper()
	all := p.paths[i].All()
	if len(all) == 0 {
		return
	}
	n := p.r.Intn(len(all))
	if p.r.Intn(3) == 0 {
		p.paths[i].Double(n)
	}
	turned := p.r.Intn(4) == 0
	if turned {
		ok(p.t, "Turn", p.paths[i].Turn(n, p.r.Intn(len(all[n])), byte(1+p.r.Intn(255))))
	}
	b, code := p.paths[i].Take(n)
	ok(p.t, "Take", code)
	f, code := frame.Read(b)
	switch {
	case turned && code == api.OK:
		p.t.Fatalf("%v was turned, and is read", f)
	case turned || p.r.Intn(4) == 0:
		return
	}
	ok(p.t, "Read", code)
	p.hand(i, f)
}

func newPost(t *testing.T, r *rand.Rand) *post {
	return &post{talk: *newTalk(t, r, 1+r.Intn(16)), paths: [2]*path.Path{path.New(), path.New()}}
}

func TestNothingComesThatWasNotSaid(t *testing.T) {
	r := rand.New(rand.NewSource(93))
	for range 30 {
		p := newPost(t, r)
		for range 3000 {
			i := r.Intn(2)
			switch r.Intn(8) {
			case 0, 1:
				p.put(i)
			case 2:
				p.send(i)
			default:
				p.take(i)
			}
		}
		if len(p.came[0]) == 0 || len(p.came[1]) == 0 {
			t.Fatalf("nothing came")
		}
		p.settle()
	}
}

// program is one of two that speak in turn, with what it knows of the conversation.
type program struct {
	know conv.Conv
	said [][]byte
	seen int // of what came
}

// say puts a word in, if it is this side's turn, and gives the turn away where the word is 'turn'.
func (g *program) say(t *testing.T, e *sess.End, side int, word []byte) {
	t.Helper()
	verb := conv.VSend
	if word[0] == 1 {
		verb = conv.VTurn
	}
	c, code := conv.Do(g.know, side, verb)
	if code != api.OK || e.Put(word) != api.OK {
		return
	}
	g.know = c
	g.said = append(g.said, word)
}

// hear takes in what came: the other one may only have said it, had it the turn.
func (g *program) hear(t *testing.T, side int, came [][]byte) {
	t.Helper()
	for _, word := range came[g.seen:] {
		verb := conv.VSend
		if word[0] == 1 {
			verb = conv.VTurn
		}
		c, code := conv.Do(g.know, 1-side, verb)
		ok(t, "what the other one said", code)
		g.know = c
	}
	g.seen = len(came)
}

func TestOnlyTheOneWhoseTurnItIsSpeaks(t *testing.T) {
	r := rand.New(rand.NewSource(94))
	for range 30 {
		p := newPost(t, r)
		var programs [2]program
		for i := range programs {
			programs[i].know, _ = conv.New(api.LevelNone)
		}
		for range 4000 {
			i := r.Intn(2)
			switch r.Intn(5) {
			case 0:
				programs[i].say(t, p.ends[i], i, []byte{byte(r.Intn(3)), byte(r.Intn(256))})
				p.sent[i] = programs[i].said
			case 1:
				p.send(i)
			default:
				p.take(i)
				programs[i].hear(t, i, p.came[i])
			}
			if _, a := conv.Do(programs[0].know, 0, conv.VSend); a == api.OK {
				if _, b := conv.Do(programs[1].know, 1, conv.VSend); b == api.OK {
					t.Fatalf("both speak")
				}
			}
		}
		if len(p.came[0]) < 10 || len(p.came[1]) < 10 {
			t.Fatalf("%d and %d came", len(p.came[0]), len(p.came[1]))
		}
	}
}

// P1, and the rules on memory

func TestWhatIsHandedInIsNeitherChangedNorKept(t *testing.T) {
	list := []byte{1, 2, 3, 4, 5}
	e := with(t, 1, 4, list[:3], list[1:2])
	data := []byte{6, 7, 8, 9}
	got, _ := e.On(api.Frame{Session: 1, Data: data[:3]})
	if !bytes.Equal(list, []byte{1, 2, 3, 4, 5}) || !bytes.Equal(data, []byte{6, 7, 8, 9}) {
		t.Fatalf("changed to %v, %v", list, data)
	}
	clear(list)
	clear(data)
	look(t, e, 1, 4, 0, 1, []byte{1, 2, 3}, []byte{2})
	if !bytes.Equal(got, []byte{6, 7, 8}) {
		t.Fatalf("what came became %v", got)
	}
}

func TestWhatIsHandedOutIsNew(t *testing.T) {
	e := with(t, 1, 4, []byte{1, 2}, []byte{3, 4}, []byte{5, 6})
	list, before := e.Frames(), e.Frames()
	for i := range list {
		clear(list[i].Data)
		_ = append(list[i].Data, 7, 7, 7)
		list[i] = api.Frame{Session: 9}
	}
	look(t, e, 1, 4, 0, 0, []byte{1, 2}, []byte{3, 4}, []byte{5, 6})
	data := []byte{1, 1}
	got, _ := e.On(api.Frame{Session: 1, Ack: 1, Data: data})
	clear(got)
	if !bytes.Equal(data, []byte{1, 1}) {
		t.Fatalf("what came is a piece of what was handed in")
	}
	ok(t, "Put", e.Put([]byte{8}))
	if !bytes.Equal(before[0].Data, []byte{1, 2}) || !bytes.Equal(before[2].Data, []byte{5, 6}) || before[0].Ack != 0 {
		t.Fatalf("what was handed out became %v", before)
	}
}

func TestWhatLiesBehindALengthIsNotRead(t *testing.T) {
	e := with(t, 1, 4, make([]byte, 300)[:256], []byte{1, 2}[:1])
	refused(t, "Put of nothing", e.Put([]byte{1}[:0]), api.ErrArg)
	look(t, e, 1, 4, 0, 0, make([]byte, 256), []byte{1})
	out(t, e, api.Frame{Session: 1, Data: []byte{1, 2}[:0]}, nil)
	out(t, e, api.Frame{Session: 1, Data: []byte{1, 2}[:1]}, []byte{1})
}

func TestACopiedEndIsOneOfItsOwn(t *testing.T) {
	d := with(t, 1, 4, numbered(3)...)
	e := *d
	out(t, d, api.Frame{Session: 1, Ack: 2}, nil)
	ok(t, "Put", d.Put([]byte{9}))
	look(t, &e, 1, 4, 0, 0, numbered(3)...)
	ok(t, "Put", e.Put([]byte{8}))
	out(t, &e, api.Frame{Session: 1, Ack: 1, Data: []byte{7}}, []byte{7})
	look(t, d, 1, 4, 2, 0, numbered(3)[2], []byte{9})
	look(t, &e, 1, 4, 1, 1, numbered(3)[1], numbered(3)[2], []byte{8})
}

func TestNoCallPanics(t *testing.T) {
	r := rand.New(rand.NewSource(99))
	numbers := []int{0, 1, 2, 3, 16, 17, -1, 65534, 65535, 65536, math.MaxInt, math.MinInt}
	some := func() int { return numbers[r.Intn(len(numbers))] }
	for range 3000 {
		e, _ := sess.New(uint32(some()), some())
		for range 20 {
			e.Put(make([]byte, r.Intn(260)))
			e.On(api.Frame{Session: uint32(some()), Seq: some(), Ack: some(), Data: make([]byte, r.Intn(3))})
			e.Frames()
			e.Waiting()
			e.Came()
		}
	}
}
