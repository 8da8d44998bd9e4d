package frame_test

import (
	"bytes"
	"encoding/binary"
	"hash/adler32"
	"math"
	"math/rand"
	"slices"
	"testing"

	"troth/api"
	"troth/frame"
)

const top = math.MaxUint32

// data is n bytes that are not alike.
func data(n int) []byte {
	b := make([]byte, n)
	for i := range b {
		b[i] = byte(7*i + 1)
	}
	return b
}

// goodFrames are at the edges of what a frame may be, each alone and together.
func goodFrames() []api.Frame {
	return []api.Frame{
		{Session: 1},
		{Session: top},
		{Session: 1 << 24},
		{Session: 0x01020304, Seq: 0x0506, Ack: 0x0708, Data: []byte{9, 10}},
		{Session: 1, Seq: 2, Ack: 3, Data: []byte{7}},
		{Session: 1, Seq: 65535},
		{Session: 1, Ack: 65535},
		{Session: 1, Seq: 256, Ack: 255},
		{Session: 1, Data: []byte{}},
		{Session: 1, Data: []byte{0}},
		{Session: 1, Data: data(255)},
		{Session: 1, Data: data(256)},
		{Session: top, Seq: 65535, Ack: 65535, Data: bytes.Repeat([]byte{255}, 256)},
	}
}

// badFrames are wrong in one thing each, and the last in all.
func badFrames() []api.Frame {
	list := []api.Frame{
		{},
		{Seq: 1, Ack: 1, Data: []byte{1}},
		{Session: 1, Data: data(257)},
		{Session: 1, Data: data(512)},
		{Session: 1, Data: data(65536)},
		{Session: 1, Data: data(65536 + 3)},
		{Seq: -1, Ack: 65536, Data: data(257)},
	}
	for _, n := range []int{-1, math.MinInt, -65536, 65536, 65537, 1 << 32, math.MaxInt} {
		list = append(list, api.Frame{Session: 1, Seq: n}, api.Frame{Session: 1, Ack: n})
	}
	return list
}

// plain is bytes as the words say, of whatever numbers: also of frames that may not be.
func plain(session uint32, seq, ack, n uint16, data []byte) []byte {
	b := binary.BigEndian.AppendUint32(nil, session)
	b = binary.BigEndian.AppendUint16(b, seq)
	b = binary.BigEndian.AppendUint16(b, ack)
	b = binary.BigEndian.AppendUint16(b, n)
	return summed(append(b, data...))
}

// summed is front and the sum of it.
func summed(front []byte) []byte {
	return binary.BigEndian.AppendUint32(slices.Clone(front), adler32.Checksum(front))
}

func plainBytes(f api.Frame) []byte {
	return plain(f.Session, uint16(f.Seq), uint16(f.Ack), uint16(len(f.Data)), f.Data)
}

func same(f, g api.Frame) bool {
	return f.Session == g.Session && f.Seq == g.Seq && f.Ack == g.Ack && bytes.Equal(f.Data, g.Data)
}

func isZero(f api.Frame) bool {
	return f.Session == 0 && f.Seq == 0 && f.Ack == 0 && len(f.Data) == 0
}

func written(t *testing.T, f api.Frame) []byte {
	t.Helper()
	b, e := frame.Write(f)
	if e != api.OK {
		t.Fatalf("Write(%v): %v", f, e)
	}
	return b
}

func refused(t *testing.T, what string, b []byte, want api.Errno) {
	t.Helper()
	if f, e := frame.Read(b); e != want || !isZero(f) {
		t.Errorf("%s: Read(%v) = %v, %v; want %v", what, b, f, e, want)
	}
}

func randomFrame(r *rand.Rand) api.Frame {
	f := api.Frame{
		Session: max(r.Uint32()>>r.Intn(32), 1),
		Seq:     r.Intn(65536) >> r.Intn(17),
		Ack:     r.Intn(65536) >> r.Intn(17),
		Data:    make([]byte, r.Intn(257)>>r.Intn(10)),
	}
	r.Read(f.Data)
	return f
}

// P7.1

func TestWriteOfTheExample(t *testing.T) {
	want := []byte{0, 0, 0, 1, 0, 2, 0, 3, 0, 1, 7}
	b := written(t, api.Frame{Session: 1, Seq: 2, Ack: 3, Data: []byte{7}})
	if len(b) != 15 || !bytes.Equal(b, summed(want)) || !bytes.Equal(b[:11], want) {
		t.Errorf("%v", b)
	}
}

func TestWriteGivesAFramesBytes(t *testing.T) {
	for _, f := range goodFrames() {
		if b := written(t, f); !bytes.Equal(b, plainBytes(f)) || len(b) != 14+len(f.Data) {
			t.Errorf("Write(%v) = %v; want %v", f, b, plainBytes(f))
		}
	}
}

func TestWriteRefusesWhatMayNotBe(t *testing.T) {
	for _, f := range badFrames() {
		if b, e := frame.Write(f); e != api.ErrFrame || len(b) != 0 {
			t.Errorf("Write(session %d, seq %d, ack %d, %d bytes) = %v, %v", f.Session, f.Seq, f.Ack, len(f.Data), b, e)
		}
	}
}

// P7.2

func TestReadGivesTheFrame(t *testing.T) {
	for _, f := range goodFrames() {
		if g, e := frame.Read(plainBytes(f)); e != api.OK || !same(f, g) {
			t.Errorf("Read = %v, %v; want %v", g, e, f)
		}
	}
}

func TestReadOfFewBytes(t *testing.T) {
	for n := range 14 {
		refused(t, "nothing but zeros", make([]byte, n), api.ErrShort)
		refused(t, "nothing but 255", bytes.Repeat([]byte{255}, n), api.ErrShort)
	}
	refused(t, "nil", nil, api.ErrShort)
	refused(t, "zeros enough", make([]byte, 14), api.ErrSum)
}

func TestReadOfFewerBytesThanAreSaid(t *testing.T) {
	whole := plain(1, 2, 3, 256, data(256))
	for n := range len(whole) {
		refused(t, "cut", whole[:n], api.ErrShort)
	}
	refused(t, "one is said", plain(1, 0, 0, 1, nil), api.ErrShort)
	refused(t, "256 are said", plain(1, 0, 0, 256, nil), api.ErrShort)
	refused(t, "65535 are said", plain(1, 0, 0, 65535, data(65534)), api.ErrShort)
}

func TestReadOfMoreBytesThanAreSaid(t *testing.T) {
	refused(t, "none is said", plain(1, 0, 0, 0, []byte{0}), api.ErrLong)
	refused(t, "one is said", plain(1, 0, 0, 1, data(257)), api.ErrLong)
	refused(t, "256 are said", plain(1, 0, 0, 256, data(257)), api.ErrLong)
	refused(t, "a sum behind the sum", summed(plain(1, 0, 0, 1, []byte{7})), api.ErrLong)
	refused(t, "65535 are said", plain(1, 0, 0, 65535, data(65536)), api.ErrLong)
}

func TestReadOfAnotherSum(t *testing.T) {
	for _, f := range goodFrames() {
		b := plainBytes(f)
		at := len(b) - 4
		for _, sum := range []uint32{0, 1, top, adler32.Checksum(b[:at]) + 1, adler32.Checksum(b[:at]) - 1, adler32.Checksum(b)} {
			binary.BigEndian.PutUint32(b[at:], sum)
			refused(t, "another sum", b, api.ErrSum)
		}
	}
}

func TestReadOfWhatMayNotBe(t *testing.T) {
	for _, n := range []int{0, 1, 256} {
		refused(t, "no session", plain(0, 1, 1, uint16(n), data(n)), api.ErrFrame)
	}
	for _, n := range []int{257, 258, 512, 4096, 65535} {
		refused(t, "too much data", plain(1, 0, 0, uint16(n), data(n)), api.ErrFrame)
		refused(t, "too much data and no session", plain(0, 0, 0, uint16(n), data(n)), api.ErrFrame)
	}
}

func TestReadTellsTheFirstError(t *testing.T) {
	turned := func(b []byte) []byte { b[len(b)-1] ^= 1; return b }
	refused(t, "short and no session", plain(0, 0, 0, 1, nil), api.ErrShort)
	refused(t, "short, too much data", plain(1, 0, 0, 257, data(256)), api.ErrShort)
	refused(t, "short and another sum", turned(plain(1, 0, 0, 300, data(299))), api.ErrShort)
	refused(t, "long and no session", plain(0, 0, 0, 0, []byte{1}), api.ErrLong)
	refused(t, "long, too much data", plain(1, 0, 0, 257, data(258)), api.ErrLong)
	refused(t, "long and another sum", turned(plain(1, 0, 0, 0, []byte{1})), api.ErrLong)
	refused(t, "another sum and no session", turned(plain(0, 0, 0, 0, nil)), api.ErrSum)
	refused(t, "another sum, too much data", turned(plain(1, 0, 0, 257, data(257))), api.ErrSum)
}

func TestReadTakesOnlyWhatWriteMakes(t *testing.T) {
	r := rand.New(rand.NewSource(71))
	for range 20000 {
		n := r.Intn(300) >> r.Intn(9)
		session := r.Uint32() >> r.Intn(40)
		b := plain(session, uint16(r.Uint32()), uint16(r.Uint32()), uint16(n), data(n+max(r.Intn(12)-10, -n)))
		f, e := frame.Read(b)
		if e != api.OK {
			continue
		}
		if again := written(t, f); !bytes.Equal(again, b) {
			t.Fatalf("%v is read as %v, whose bytes are %v", b, f, again)
		}
	}
}

// P7.3

func TestFramesGoThereAndBack(t *testing.T) {
	r := rand.New(rand.NewSource(73))
	for range 20000 {
		f := randomFrame(r)
		b := written(t, f)
		if !bytes.Equal(b, plainBytes(f)) {
			t.Fatalf("Write(%v) = %v; want %v", f, b, plainBytes(f))
		}
		if g, e := frame.Read(b); e != api.OK || !same(f, g) {
			t.Fatalf("%v comes back as %v, %v", f, g, e)
		}
	}
}

// P7.4

func TestAFrameThatIsTurnedInOneByteIsNone(t *testing.T) {
	for _, f := range goodFrames() {
		b := written(t, f)
		for at := range b {
			for by := 1; by < 256; by++ {
				b[at] ^= byte(by)
				if g, e := frame.Read(b); e == api.OK || !isZero(g) {
					t.Fatalf("%v, byte %d turned by %d: %v, %v", f, at, by, g, e)
				}
				b[at] ^= byte(by)
			}
		}
	}
}

func TestAFrameThatIsCutOrHasBytesBehindItIsNone(t *testing.T) {
	for _, f := range goodFrames() {
		b := written(t, f)
		for n := range len(b) {
			refused(t, "cut", b[:n], api.ErrShort)
		}
		for _, more := range [][]byte{{0}, {255}, b[len(b)-4:], make([]byte, 4), b} {
			refused(t, "bytes behind", slices.Concat(b, more), api.ErrLong)
		}
	}
}

// P1, and the rules on memory

func TestWhatIsHandedInIsNeitherChangedNorKept(t *testing.T) {
	list := data(40)
	f := api.Frame{Session: 1, Seq: 2, Ack: 3, Data: list[:20]}
	b := written(t, f)
	want := slices.Clone(b)
	if !bytes.Equal(list, data(40)) {
		t.Fatalf("Write changed %v", list)
	}
	clear(list)
	if !bytes.Equal(b, want) {
		t.Fatalf("Write kept its data")
	}
	long := append(slices.Clone(b), 1, 2, 3)
	g, e := frame.Read(long[:len(b)])
	if e != api.OK || !bytes.Equal(long, append(slices.Clone(want), 1, 2, 3)) {
		t.Fatalf("Read: %v, changed to %v", e, long)
	}
	clear(long)
	if !bytes.Equal(g.Data, data(20)) {
		t.Fatalf("Read kept its bytes")
	}
}

func TestWhatIsHandedOutIsNew(t *testing.T) {
	for _, f := range goodFrames() {
		b := written(t, f)
		want := slices.Clone(b)
		g, _ := frame.Read(b)
		clear(g.Data)
		_ = append(g.Data, 1, 2, 3, 4, 5)
		if !bytes.Equal(b, want) {
			t.Fatalf("what Read handed out is a piece of its bytes")
		}
		clear(b)
		if !bytes.Equal(written(t, f), want) {
			t.Fatalf("what Write handed out is a piece of what it keeps")
		}
	}
}

func TestWhatLiesBehindALengthIsNotRead(t *testing.T) {
	whole := plain(1, 2, 3, 2, []byte{4, 5})
	refused(t, "the rest lies behind", whole[:len(whole)-1], api.ErrShort)
	refused(t, "all lies behind", whole[:0], api.ErrShort)
	f := api.Frame{Session: 1, Data: data(300)[:256]}
	if b, e := frame.Write(f); e != api.OK || len(b) != 270 {
		t.Errorf("%d bytes, %v", len(b), e)
	}
}

func TestNoCallPanics(t *testing.T) {
	r := rand.New(rand.NewSource(79))
	numbers := []int{0, 1, -1, 65535, 65536, math.MaxInt, math.MinInt}
	for range 20000 {
		b := make([]byte, r.Intn(40))
		r.Read(b)
		frame.Read(b)
		frame.Write(api.Frame{
			Session: r.Uint32() >> r.Intn(40),
			Seq:     numbers[r.Intn(len(numbers))],
			Ack:     numbers[r.Intn(len(numbers))],
			Data:    make([]byte, r.Intn(600)),
		})
	}
}
