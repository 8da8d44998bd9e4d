package psh_test

import (
	"bytes"
	"math"
	"math/rand"
	"slices"
	"testing"

	"troth/api"
	"troth/gds"
	"troth/luw"
	"troth/psh"
)

const top = math.MaxUint32

var (
	zero  api.Msg
	names = []string{"attach", "prepare", "yes", "readonly", "no", "ask", "commit", "backout", "forget", "done", "query", "names", "refuse"}
	works = []api.Luw{{Seq: 1}, {Unit: 1, Life: 2, Seq: 3}, {Unit: 5, Life: top, Seq: top}, {Unit: 3, Life: 0x01020304, Seq: 0x05060708}}
	wrong = []api.Luw{{Unit: 1, Life: 2}, {Life: 1}, {Unit: -1, Seq: 1}, {Unit: 6, Seq: 1}, {Unit: 256, Seq: 1}, {Unit: math.MinInt, Seq: 1}, {Unit: math.MaxInt, Seq: 1}}
	other = []int{0, -1, 14, 15, 255, 256, 257, -4864, 4864, 4865, 4872, 65536, 65537, math.MaxInt, math.MinInt}
)

// rightMessages are some of each kind, with the edges of what they have.
func rightMessages() []api.Msg {
	list := []api.Msg{
		{Kind: 13}, {Kind: 12, Mine: 1}, {Kind: 12, Mine: 1, Your: 1}, {Kind: 12, Mine: top, Your: top},
		{Kind: 12, Mine: 0x01020304, Your: 0x05060708}, {Kind: 12, Mine: 1 << 24}, {Kind: 12, Mine: 256, Your: top},
	}
	for kind := 1; kind <= 11; kind++ {
		for _, l := range works {
			list = append(list, api.Msg{Kind: kind, Luw: l})
		}
	}
	for _, l := range works {
		list = append(list, api.Msg{Kind: 9, Luw: l, Mixed: true})
	}
	return list
}

// wrongMessages are wrong in one thing each, or of no kind.
func wrongMessages() []api.Msg {
	good := works[1]
	list := []api.Msg{
		zero, {Luw: good},
		{Kind: 12}, {Kind: 12, Your: 1}, {Kind: 12, Mine: 1, Luw: good}, {Kind: 12, Mine: 1, Mixed: true}, {Kind: 12, Mine: 1, Luw: api.Luw{Life: 1}},
		{Kind: 12, Mine: 1, Luw: api.Luw{Unit: 1}}, {Kind: 12, Mine: 1, Luw: api.Luw{Unit: -1}},
		{Kind: 13, Luw: good}, {Kind: 13, Mixed: true}, {Kind: 13, Mine: 1}, {Kind: 13, Your: 1}, {Kind: 13, Luw: api.Luw{Life: 1}},
		{Kind: 13, Luw: api.Luw{Unit: 1}},
	}
	for kind := 1; kind <= 11; kind++ {
		list = append(list, api.Msg{Kind: kind}, api.Msg{Kind: kind, Luw: good, Mine: 1}, api.Msg{Kind: kind, Luw: good, Your: 1})
		for _, l := range wrong {
			list = append(list, api.Msg{Kind: kind, Luw: l})
		}
		if kind != 9 {
			list = append(list, api.Msg{Kind: kind, Luw: good, Mixed: true})
		}
	}
	for _, l := range wrong {
		list = append(list, api.Msg{Kind: 9, Luw: l, Mixed: true})
	}
	for _, kind := range other {
		list = append(list, api.Msg{Kind: kind}, api.Msg{Kind: kind, Luw: good}, api.Msg{Kind: kind, Mine: 1})
	}
	return list
}

func four(n uint32) []byte { return []byte{byte(n >> 24), byte(n >> 16), byte(n >> 8), byte(n)} }

// segment is the bytes of a variable of one segment.
func segment(id int, data ...byte) []byte {
	n := 4 + len(data)
	return append([]byte{byte(n / 256), byte(n % 256), byte(id / 256), byte(id % 256)}, data...)
}

// plainBytes is a right message's bytes as the words say.
func plainBytes(m api.Msg) []byte {
	switch m.Kind {
	case 13:
		return segment(4864 + 13)
	case 12:
		return segment(4864+12, slices.Concat(four(m.Mine), four(m.Your))...)
	}
	mixed := byte(0)
	if m.Mixed {
		mixed = 1
	}
	return segment(4864+m.Kind, slices.Concat([]byte{byte(m.Luw.Unit)}, four(m.Luw.Life), four(m.Luw.Seq), []byte{mixed})...)
}

func randomMessage(r *rand.Rand) api.Msg {
	m := api.Msg{Kind: 1 + r.Intn(13)}
	switch m.Kind {
	case 13:
	case 12:
		m.Mine, m.Your = max(r.Uint32()>>r.Intn(32), 1), r.Uint32()>>r.Intn(33)
	default:
		m.Luw = api.Luw{Unit: r.Intn(6), Life: r.Uint32() >> r.Intn(33), Seq: max(r.Uint32()>>r.Intn(32), 1)}
		m.Mixed = m.Kind == 9 && r.Intn(2) == 0
	}
	return m
}

func refused(t *testing.T, what string, b []byte, want api.Errno) {
	t.Helper()
	if m, e := psh.Read(b); e != want || m != zero {
		t.Errorf("%s: Read(%v) = %v, %v; want %v", what, b, m, e, want)
	}
}

// P6.1

func TestRight(t *testing.T) {
	for _, m := range rightMessages() {
		if !psh.Right(m) {
			t.Errorf("%v is not right", m)
		}
	}
	for _, m := range wrongMessages() {
		if psh.Right(m) {
			t.Errorf("%v is right", m)
		}
	}
}

func TestWriteOfTheExamples(t *testing.T) {
	for _, c := range []struct {
		m    api.Msg
		want []byte
	}{
		{api.Msg{Kind: api.MsgRefuse}, []byte{0, 4, 19, 13}},
		{api.Msg{Kind: api.MsgForget, Luw: api.Luw{Unit: 1, Life: 2, Seq: 3}, Mixed: true}, []byte{0, 14, 19, 9, 1, 0, 0, 0, 2, 0, 0, 0, 3, 1}},
		{api.Msg{Kind: api.MsgAttach, Luw: api.Luw{Unit: 1, Life: 2, Seq: 3}}, []byte{0, 14, 19, 1, 1, 0, 0, 0, 2, 0, 0, 0, 3, 0}},
		{api.Msg{Kind: api.MsgNames, Mine: 258, Your: 3}, []byte{0, 12, 19, 12, 0, 0, 1, 2, 0, 0, 0, 3}},
	} {
		if b, e := psh.Write(c.m); e != api.OK || !bytes.Equal(b, c.want) {
			t.Errorf("Write(%v) = %v, %v; want %v", c.m, b, e, c.want)
		}
	}
}

func TestWriteGivesAMessagesBytes(t *testing.T) {
	for _, m := range rightMessages() {
		if b, e := psh.Write(m); e != api.OK || !bytes.Equal(b, plainBytes(m)) {
			t.Errorf("Write(%v) = %v, %v; want %v", m, b, e, plainBytes(m))
		}
	}
	for _, m := range wrongMessages() {
		if b, e := psh.Write(m); e != api.ErrKind || len(b) != 0 {
			t.Errorf("Write(%v) = %v, %v", m, b, e)
		}
	}
}

// P6.2

func TestReadGivesAMessage(t *testing.T) {
	for _, m := range rightMessages() {
		if n, e := psh.Read(plainBytes(m)); e != api.OK || n != m {
			t.Errorf("Read of %v = %v, %v", m, n, e)
		}
	}
}

func TestReadTellsNextsErrors(t *testing.T) {
	many := bytes.Repeat([]byte{128, 2}, 64)
	for _, b := range [][]byte{
		nil, {0}, {0, 4}, {0, 4, 19}, {0, 5, 19, 13}, {0, 0}, {0, 3, 19}, {128, 0}, {128, 4, 19, 13}, {128, 4, 19, 13, 0, 1},
		{0, 0, 0, 4, 19, 13}, {255, 255, 19, 13}, append([]byte{128, 4, 19, 13}, many...), segment(4864+13, make([]byte, 2049)...),
		append(segment(4864+13, make([]byte, 2049)...), 1), append([]byte{128, 4, 0, 0}, many...),
	} {
		_, _, want := gds.Next(b)
		if want == api.OK {
			t.Fatalf("Next(%v) is OK", b)
		}
		refused(t, "what Next refuses", b, want)
	}
}

func TestReadRefusesBytesBehind(t *testing.T) {
	for _, m := range rightMessages() {
		b := plainBytes(m)
		refused(t, "a byte behind", append(bytes.Clone(b), 0), api.ErrLong)
		refused(t, "twice", append(bytes.Clone(b), b...), api.ErrLong)
	}
	refused(t, "no message, and a byte behind", []byte{0, 4, 0, 5, 1}, api.ErrLong) // ahead of ErrKind
	refused(t, "in two segments, and a byte behind", []byte{128, 4, 19, 13, 0, 2, 1}, api.ErrLong)
}

func TestReadRefusesOtherVariables(t *testing.T) {
	whole := []byte{1, 0, 0, 0, 2, 0, 0, 0, 3, 0}
	both := []byte{0, 0, 0, 1, 0, 0, 0, 2}
	for _, id := range []int{0, 1, 9, 13, 256 + 9, 4863, 4864, 4864 + 14, 4864 + 256 + 9, 4864 - 256 + 9, 32768 + 4864 + 9, 65535} {
		refused(t, "another ID", segment(id), api.ErrKind)
		refused(t, "another ID", segment(id, whole...), api.ErrKind)
		refused(t, "another ID", segment(id, both...), api.ErrKind)
	}
	for kind := 1; kind <= 13; kind++ {
		for n := range 30 {
			data := append(bytes.Clone(whole), make([]byte, 20)...)[:n]
			if kind <= 11 && n != 10 || kind == 12 && n != 8 || kind == 13 && n != 0 {
				refused(t, "data of another length", segment(4864+kind, data...), api.ErrKind)
			}
		}
		refused(t, "the most data", segment(4864+kind, make([]byte, 2048)...), api.ErrKind)
		for mixed := 1; mixed < 256 && kind <= 11; mixed++ {
			if kind != 9 || mixed > 1 {
				refused(t, "no such Mixed", segment(4864+kind, append(bytes.Clone(whole[:9]), byte(mixed))...), api.ErrKind)
			}
		}
		if kind <= 11 {
			refused(t, "no unit's number", segment(4864+kind, 6, 0, 0, 0, 2, 0, 0, 0, 3, 0), api.ErrKind)
			refused(t, "Seq 0", segment(4864+kind, 1, 0, 0, 0, 2, 0, 0, 0, 0, 0), api.ErrKind)
			refused(t, "all noughts", segment(4864+kind, make([]byte, 10)...), api.ErrKind)
		}
	}
	refused(t, "no Mine", segment(4864+12, 0, 0, 0, 0, 0, 0, 0, 2), api.ErrKind)
	refused(t, "no names", segment(4864+12, make([]byte, 8)...), api.ErrKind)
}

func TestReadRefusesAMessageInSegments(t *testing.T) {
	for _, m := range rightMessages() {
		b := plainBytes(m)
		for at := 4; at <= len(b); at++ {
			rest := len(b) - at + 2
			cut := slices.Concat([]byte{128, byte(at)}, b[2:at], []byte{0, byte(rest)}, b[at:])
			if v, n, e := gds.Next(cut); e != api.OK || n != len(cut) || !bytes.Equal(v.Data, b[4:]) {
				t.Fatalf("the test's own segments are wrong: %v", cut)
			}
			refused(t, "in two segments", cut, api.ErrKind)
		}
	}
}

// P6.3

func TestName(t *testing.T) {
	for i, name := range names {
		if got := psh.Name(i + 1); got != name {
			t.Errorf("Name(%d) = %q; want %q", i+1, got, name)
		}
	}
	for _, kind := range other {
		if got := psh.Name(kind); got != "" {
			t.Errorf("Name(%d) = %q", kind, got)
		}
	}
}

// P6.4

func TestMessagesGoThereAndBack(t *testing.T) {
	r := rand.New(rand.NewSource(1))
	for range 20000 {
		m := randomMessage(r)
		b, e := psh.Write(m)
		if n, f := psh.Read(b); e != api.OK || f != api.OK || n != m {
			t.Fatalf("%v as %v, %v: %v, %v", m, b, e, n, f)
		}
	}
}

// A message turned in some bytes is either none any more, or another one, whose bytes are these.
func TestInOneWayAlone(t *testing.T) {
	r := rand.New(rand.NewSource(2))
	read := 0
	for range 200000 {
		b := plainBytes(randomMessage(r))
		for range 1 + r.Intn(2) {
			b[r.Intn(len(b))] = []byte{0, 1, 4, 12, 14, 19, byte(r.Intn(16)), byte(r.Intn(256))}[r.Intn(8)]
		}
		m, e := psh.Read(b)
		if e != api.OK {
			continue
		}
		read++
		if c, f := psh.Write(m); f != api.OK || !psh.Right(m) || !bytes.Equal(b, c) {
			t.Fatalf("Read(%v) = %v, whose bytes are %v, %v", b, m, c, f)
		}
	}
	if read < 1000 {
		t.Errorf("only %d were messages", read)
	}
}

func TestNoTwoMessagesHaveTheSameBytes(t *testing.T) {
	of := map[string]api.Msg{}
	for _, m := range rightMessages() {
		b, _ := psh.Write(m)
		if n, had := of[string(b)]; had {
			t.Errorf("%v and %v both are %v", m, n, b)
		}
		of[string(b)] = m
	}
}

// P6.5

func TestCutAnywhereOrWithOthersBehindTheyAreNone(t *testing.T) {
	r := rand.New(rand.NewSource(3))
	for range 2000 {
		b := plainBytes(randomMessage(r))
		for n := range len(b) {
			refused(t, "cut", b[:n:n], api.ErrShort)
			refused(t, "cut, with the rest behind its length", b[:n], api.ErrShort)
		}
		more := make([]byte, 1+r.Intn(20))
		r.Read(more)
		refused(t, "others behind", slices.Concat(b, more), api.ErrLong)
	}
}

// Rule 5, P1

func TestWhatIsHandedInIsNotChangedWhatIsHandedOutIsNew(t *testing.T) {
	for _, m := range rightMessages() {
		b := plainBytes(m)
		long := append(bytes.Clone(b), 77, 78)
		if n, e := psh.Read(long[:len(b)]); e != api.OK || n != m || !bytes.Equal(long, append(bytes.Clone(b), 77, 78)) {
			t.Errorf("Read changed what it read: %v, %v, %v", long, n, e)
		}
		first, _ := psh.Write(m)
		clear(first)
		if second, _ := psh.Write(m); !bytes.Equal(second, b) {
			t.Errorf("Write hands out what it handed out: %v", second)
		}
	}
}

func TestNoCallPanics(t *testing.T) {
	r := rand.New(rand.NewSource(4))
	for range 20000 {
		b := make([]byte, r.Intn(40))
		r.Read(b)
		psh.Read(b)
		psh.Read(segment(r.Intn(65536), b...))
		psh.Read(segment(4864+r.Intn(16), b...))
		m := api.Msg{Kind: int(r.Uint64() >> r.Intn(64)), Mixed: r.Intn(2) == 0, Mine: r.Uint32(), Your: r.Uint32()}
		m.Luw = api.Luw{Unit: int(r.Uint64()), Life: r.Uint32(), Seq: r.Uint32()}
		psh.Right(m)
		psh.Write(m)
		psh.Name(m.Kind)
	}
}

// A name of a work is as package luw has it.
func TestTheNamesAreThoseOfLuw(t *testing.T) {
	for _, l := range works {
		b, _ := psh.Write(api.Msg{Kind: api.MsgQuery, Luw: l})
		if c, e := luw.Write(l); e != api.OK || !bytes.Equal(b[4:13], c) {
			t.Errorf("%v stands as %v", l, b)
		}
	}
}
