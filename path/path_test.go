package path_test

import (
	"bytes"
	"math"
	"math/rand"
	"slices"
	"testing"

	"troth/api"
	"troth/frame"
	"troth/path"
)

var noIndex = []int{math.MinInt, -1, math.MaxInt}

func ok(t *testing.T, what string, e api.Errno) {
	t.Helper()
	if e != api.OK {
		t.Fatalf("%s: %v", what, e)
	}
}

func refused(t *testing.T, what string, e, want api.Errno) {
	t.Helper()
	if e != want {
		t.Errorf("%s: %v; want %v", what, e, want)
	}
}

// with is a path that such packets were sent on.
func with(t *testing.T, packets ...[]byte) *path.Path {
	t.Helper()
	p := path.New()
	for _, b := range packets {
		ok(t, "Send", p.Send(b))
	}
	return p
}

func look(t *testing.T, p *path.Path, want ...[]byte) {
	t.Helper()
	if got := p.All(); !slices.EqualFunc(got, want, bytes.Equal) {
		t.Fatalf("on their way: %v; want %v", got, want)
	}
}

func took(t *testing.T, p *path.Path, i int, want []byte) {
	t.Helper()
	if b, e := p.Take(i); e != api.OK || !bytes.Equal(b, want) {
		t.Fatalf("Take(%d) = %v, %v; want %v", i, b, e, want)
	}
}

func tookNothing(t *testing.T, p *path.Path, i int, want api.Errno) {
	t.Helper()
	if b, e := p.Take(i); e != want || len(b) != 0 {
		t.Errorf("Take(%d) = %v, %v; want %v", i, b, e, want)
	}
}

// full is 256 packets, each with its place in it.
func full() [][]byte {
	list := make([][]byte, 256)
	for i := range list {
		list[i] = []byte{byte(i), 1}
	}
	return list
}

// P8.1

func TestTheExample(t *testing.T) {
	p := with(t, []byte{1})
	ok(t, "Double", p.Double(0))
	ok(t, "Turn", p.Turn(1, 0, 3))
	look(t, p, []byte{1}, []byte{2})
}

func TestNewHasNoPackets(t *testing.T) {
	for name, p := range map[string]*path.Path{"New": path.New(), "zero": {}, "new": new(path.Path)} {
		if p == nil {
			t.Fatalf("%s is nil", name)
		}
		look(t, p)
		for _, i := range append(noIndex, 0, 1, 255, 256) {
			tookNothing(t, p, i, api.ErrNone)
			refused(t, "Double", p.Double(i), api.ErrNone)
			refused(t, "Turn", p.Turn(i, 0, 1), api.ErrNone)
		}
		ok(t, "Clear", p.Clear())
		look(t, p)
		ok(t, "Send", p.Send([]byte{1, 2}))
		look(t, p, []byte{1, 2})
		ok(t, "Double", p.Double(0))
		ok(t, "Turn", p.Turn(0, 1, 1))
		took(t, p, 0, []byte{1, 3})
		took(t, p, 0, []byte{1, 2})
		look(t, p)
	}
}

func TestTwoPathsAreTwo(t *testing.T) {
	p, q := path.New(), path.New()
	ok(t, "Send", p.Send([]byte{1}))
	look(t, q)
	ok(t, "Send", q.Send([]byte{2}))
	ok(t, "Clear", p.Clear())
	look(t, q, []byte{2})
}

func TestOfNil(t *testing.T) {
	var p *path.Path
	for _, i := range append(noIndex, 0) {
		tookNothing(t, p, i, api.ErrNil)
		refused(t, "Double", p.Double(i), api.ErrNil)
		refused(t, "Turn", p.Turn(i, i, 1), api.ErrNil)
	}
	refused(t, "Send", p.Send([]byte{1}), api.ErrNil)
	refused(t, "Send of nothing", p.Send(nil), api.ErrNil)
	refused(t, "Send of too much", p.Send(make([]byte, 513)), api.ErrNil)
	refused(t, "Clear", p.Clear(), api.ErrNil)
	look(t, p)
}

func TestSendPutsBehindAllOthers(t *testing.T) {
	p := with(t, []byte{3}, nil, []byte{1, 2}, []byte{3}, []byte{})
	look(t, p, []byte{3}, nil, []byte{1, 2}, []byte{3}, nil)
}

func TestSendRefusesMoreThan512Bytes(t *testing.T) {
	long := bytes.Repeat([]byte{9}, 512)
	p := with(t, long)
	for _, n := range []int{513, 514, 1024, 65536} {
		refused(t, "Send", p.Send(make([]byte, n)), api.ErrLong)
	}
	look(t, p, long)
}

func TestSendRefusesMoreThan256Packets(t *testing.T) {
	p := with(t, full()...)
	look(t, p, full()...)
	for _, b := range [][]byte{nil, {1}, make([]byte, 512)} {
		refused(t, "Send", p.Send(b), api.ErrFull)
	}
	refused(t, "Send of too much", p.Send(make([]byte, 513)), api.ErrLong)
	look(t, p, full()...)
	took(t, p, 100, []byte{100, 1})
	ok(t, "Send", p.Send([]byte{7}))
	refused(t, "Send", p.Send([]byte{8}), api.ErrFull)
	look(t, p, append(slices.Delete(full(), 100, 101), []byte{7})...)
}

func TestTakeTakesThatPacket(t *testing.T) {
	for i := range 5 {
		list := [][]byte{{0}, {1, 1}, {2, 2, 2}, {}, {4}}
		p := with(t, list...)
		took(t, p, i, list[i])
		look(t, p, slices.Delete(list, i, i+1)...)
	}
}

func TestTakeTakesAll(t *testing.T) {
	p := with(t, full()...)
	for _, b := range full() {
		took(t, p, 0, b)
	}
	look(t, p)
	p = with(t, full()...)
	for i := 255; i >= 0; i-- {
		took(t, p, i, full()[i])
	}
	look(t, p)
	tookNothing(t, p, 0, api.ErrNone)
}

func TestWithoutAPacketThere(t *testing.T) {
	p := with(t, []byte{1}, []byte{2})
	for _, i := range append(noIndex, 2, 3, 255, 256) {
		tookNothing(t, p, i, api.ErrNone)
		refused(t, "Double", p.Double(i), api.ErrNone)
		for _, at := range append(noIndex, 0, 1) {
			refused(t, "Turn", p.Turn(i, at, 1), api.ErrNone)
		}
	}
	look(t, p, []byte{1}, []byte{2})
	took(t, p, 1, []byte{2})
	tookNothing(t, p, 1, api.ErrNone)
	refused(t, "Double of what was taken", p.Double(1), api.ErrNone)
	refused(t, "Turn of what was taken", p.Turn(1, 0, 1), api.ErrNone)
	p = with(t, full()...)
	tookNothing(t, p, 256, api.ErrNone)
	refused(t, "Turn", p.Turn(256, 0, 1), api.ErrNone)
}

func TestDoublePutsACopyBehindAllOthers(t *testing.T) {
	p := with(t, []byte{1, 2}, nil, []byte{3})
	ok(t, "Double", p.Double(0))
	look(t, p, []byte{1, 2}, nil, []byte{3}, []byte{1, 2})
	ok(t, "Double", p.Double(1))
	ok(t, "Double", p.Double(3))
	look(t, p, []byte{1, 2}, nil, []byte{3}, []byte{1, 2}, nil, []byte{1, 2})
}

func TestACopyIsAPacketOfItsOwn(t *testing.T) {
	p := with(t, []byte{1, 2})
	ok(t, "Double", p.Double(0))
	ok(t, "Double", p.Double(0))
	ok(t, "Turn", p.Turn(0, 0, 8))
	ok(t, "Turn", p.Turn(2, 1, 16))
	look(t, p, []byte{9, 2}, []byte{1, 2}, []byte{1, 18})
	took(t, p, 0, []byte{9, 2})
	look(t, p, []byte{1, 2}, []byte{1, 18})
}

func TestDoubleOfAFullPath(t *testing.T) {
	p := with(t, full()[:255]...)
	ok(t, "Double", p.Double(254))
	refused(t, "Double", p.Double(0), api.ErrFull)
	refused(t, "Double", p.Double(255), api.ErrFull)
	for _, i := range append(noIndex, 256) {
		refused(t, "Double of none", p.Double(i), api.ErrNone)
	}
	look(t, p, append(full()[:255], []byte{254, 1})...)
}

func TestTurnXorsThatByte(t *testing.T) {
	for at := range 3 {
		for by := range 256 {
			b := []byte{0, 85, 255}
			p := with(t, []byte{1, 2, 3}, b, []byte{1, 2, 3})
			ok(t, "Turn", p.Turn(1, at, byte(by)))
			b[at] ^= byte(by)
			look(t, p, []byte{1, 2, 3}, b, []byte{1, 2, 3})
		}
	}
}

func TestTurnTwiceIsNothing(t *testing.T) {
	p := with(t, []byte{1, 2})
	ok(t, "Turn", p.Turn(0, 1, 77))
	ok(t, "Turn", p.Turn(0, 1, 77))
	look(t, p, []byte{1, 2})
}

func TestTurnOfNoByte(t *testing.T) {
	p := with(t, []byte{1, 2}, nil, make([]byte, 512))
	for _, c := range []struct{ i, at int }{{0, 2}, {0, 3}, {0, 511}, {1, 0}, {1, 1}, {2, 512}, {2, 513}} {
		refused(t, "Turn", p.Turn(c.i, c.at, 1), api.ErrArg)
		refused(t, "Turn by nothing", p.Turn(c.i, c.at, 0), api.ErrArg)
	}
	for i := range 3 {
		for _, at := range noIndex {
			refused(t, "Turn", p.Turn(i, at, 1), api.ErrArg)
		}
	}
	look(t, p, []byte{1, 2}, nil, make([]byte, 512))
	ok(t, "Turn", p.Turn(2, 511, 1))
}

func TestClearTakesAllOff(t *testing.T) {
	for _, n := range []int{0, 1, 2, 255, 256} {
		p := with(t, full()[:n]...)
		ok(t, "Clear", p.Clear())
		look(t, p)
		tookNothing(t, p, 0, api.ErrNone)
		refused(t, "Double", p.Double(0), api.ErrNone)
		ok(t, "Clear", p.Clear())
		for _, b := range full() {
			ok(t, "Send", p.Send(b))
		}
		refused(t, "Send", p.Send(nil), api.ErrFull)
		look(t, p, full()...)
	}
}

// P8.2, P8.3

// plainPath is a path as its words say.
type plainPath [][]byte

func (p *plainPath) send(b []byte) api.Errno {
	if len(b) > 512 {
		return api.ErrLong
	}
	if len(*p) == 256 {
		return api.ErrFull
	}
	*p = append(*p, slices.Clone(b))
	return api.OK
}

func (p *plainPath) take(i int) ([]byte, api.Errno) {
	if i < 0 || i >= len(*p) {
		return nil, api.ErrNone
	}
	b := (*p)[i]
	*p = slices.Delete(*p, i, i+1)
	return b, api.OK
}

func (p *plainPath) double(i int) api.Errno {
	if i < 0 || i >= len(*p) {
		return api.ErrNone
	}
	return p.send((*p)[i])
}

func (p *plainPath) turn(i, at int, by byte) api.Errno {
	switch {
	case i < 0 || i >= len(*p):
		return api.ErrNone
	case at < 0 || at >= len((*p)[i]):
		return api.ErrArg
	}
	(*p)[i][at] ^= by
	return api.OK
}

func TestAPathIsWhatItsWordsSay(t *testing.T) {
	r := rand.New(rand.NewSource(81))
	for range 60 {
		p, m := path.New(), plainPath{}
		sends := 3 + r.Intn(8) // of 12: some runs come to a full path, others are mostly empty
		for range 600 {
			var got, want api.Errno
			i, at := r.Intn(len(m)+3)-1, r.Intn(6)-1
			switch n := r.Intn(12); {
			case n < sends:
				b := make([]byte, r.Intn(5))
				r.Read(b)
				got, want = p.Send(b), m.send(b)
			case n < 9:
				var x, y []byte
				x, got = p.Take(i)
				y, want = m.take(i)
				if !bytes.Equal(x, y) {
					t.Fatalf("Take(%d) = %v; want %v", i, x, y)
				}
			case n == 9:
				got, want = p.Double(i), m.double(i)
			case n == 10:
				by := byte(r.Intn(256))
				got, want = p.Turn(i, at, by), m.turn(i, at, by)
			case r.Intn(100) == 0:
				got, want, m = p.Clear(), api.OK, plainPath{}
			}
			if got != want {
				t.Fatalf("%v; want %v", got, want)
			}
			look(t, p, m...)
		}
	}
}

func TestWithoutTurnNothingComesThatWasNotSent(t *testing.T) {
	r := rand.New(rand.NewSource(82))
	p, sent, there := path.New(), map[string]bool{}, 0
	for range 5000 {
		i := r.Intn(260) - 2
		switch r.Intn(3) {
		case 0:
			b := make([]byte, r.Intn(3))
			r.Read(b)
			if p.Send(b) == api.OK {
				sent[string(b)] = true
				there++
			}
		case 1:
			if p.Double(i) == api.OK {
				there++
			}
		case 2:
			if b, e := p.Take(i); e == api.OK {
				there--
				if !sent[string(b)] {
					t.Fatalf("%v was not sent", b)
				}
			}
		}
		if n := len(p.All()); n != there {
			t.Fatalf("%d on their way; want %d", n, there)
		}
	}
}

// P3 of the whole, so far as frames and paths bear it

func TestOverAPathOnlyFramesComeThatWereSent(t *testing.T) {
	r := rand.New(rand.NewSource(83))
	p, sent := path.New(), map[string]bool{}
	came, none := 0, 0
	for seq := range 3000 {
		b, e := frame.Write(api.Frame{Session: 1 + uint32(r.Intn(3)), Seq: seq, Ack: r.Intn(65536), Data: make([]byte, r.Intn(257))})
		ok(t, "Write", e)
		sent[string(b)] = true
		ok(t, "Send", p.Send(b))
		if r.Intn(3) == 0 {
			ok(t, "Double", p.Double(len(p.All())-1))
		}
		n := len(p.All())
		turned := r.Intn(2) == 0
		if turned {
			ok(t, "Turn", p.Turn(n-1, r.Intn(len(b)), byte(1+r.Intn(255))))
		}
		for n > 20 || turned && n > 0 { // what is turned is taken before a second turn could hide the first
			got, e := p.Take(r.Intn(n))
			ok(t, "Take", e)
			n--
			f, e := frame.Read(got)
			if e != api.OK {
				none++
				continue
			}
			came++
			if again, _ := frame.Write(f); !bytes.Equal(again, got) || !sent[string(got)] {
				t.Fatalf("%v was not sent", f)
			}
		}
	}
	if came < 1000 || none < 1000 {
		t.Errorf("%d frames came, %d packets were none", came, none)
	}
}

// P1, and the rules on memory

func TestWhatIsSentIsNeitherChangedNorKept(t *testing.T) {
	list := []byte{1, 2, 3, 4, 5}
	p := with(t, list[:3], list[1:2])
	ok(t, "Turn", p.Turn(0, 0, 255))
	if !bytes.Equal(list, []byte{1, 2, 3, 4, 5}) {
		t.Fatalf("changed to %v", list)
	}
	clear(list)
	look(t, p, []byte{254, 2, 3}, []byte{2})
}

func TestWhatIsHandedOutIsNew(t *testing.T) {
	p := with(t, []byte{1, 2}, []byte{3, 4}, []byte{5, 6})
	ok(t, "Double", p.Double(0))
	all := p.All()
	for i := range all {
		clear(all[i])
		_ = append(all[i], 7, 7, 7)
	}
	_ = append(all[:1], []byte{8})
	want := [][]byte{{1, 2}, {3, 4}, {5, 6}, {1, 2}}
	look(t, p, want...)
	b, _ := p.Take(0)
	clear(b)
	_ = append(b, 7, 7, 7)
	look(t, p, want[1:]...)
	before := p.All()
	ok(t, "Turn", p.Turn(0, 0, 1))
	took(t, p, 1, []byte{5, 6})
	ok(t, "Clear", p.Clear())
	if !slices.EqualFunc(before, want[1:], bytes.Equal) {
		t.Fatalf("what was handed out became %v", before)
	}
}

func TestWhatLiesBehindALengthIsNotRead(t *testing.T) {
	p := with(t, make([]byte, 600)[:512], []byte{1, 2}[:1], []byte{1}[:0])
	refused(t, "Turn", p.Turn(1, 1, 1), api.ErrArg)
	refused(t, "Turn", p.Turn(2, 0, 1), api.ErrArg)
	look(t, p, make([]byte, 512), []byte{1}, nil)
}

func TestACopiedPathIsOneOfItsOwn(t *testing.T) {
	p := with(t, []byte{1}, []byte{2}, []byte{3})
	q := *p
	ok(t, "Turn", p.Turn(1, 0, 7))
	took(t, p, 0, []byte{1})
	ok(t, "Send", p.Send([]byte{4}))
	look(t, &q, []byte{1}, []byte{2}, []byte{3})
	b, _ := q.Take(2)
	clear(b)
	ok(t, "Clear", q.Clear())
	look(t, p, []byte{5}, []byte{3}, []byte{4})
}
