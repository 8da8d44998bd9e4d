package luw_test

import (
	"bytes"
	"math"
	"math/rand"
	"strconv"
	"strings"
	"testing"

	"troth/api"
	"troth/luw"
)

const top = math.MaxUint32

var zero api.Luw

// edges are numbers of 32 bits with nothing, one byte or every digit in them.
var edges = []uint32{0, 1, 2, 9, 10, 11, 99, 100, 255, 256, 65535, 65536, 1 << 24, 999999999, 1000000000, 1 << 31, 4294967289, top - 1, top}

func rightNames() []api.Luw {
	var list []api.Luw
	for u := range 6 {
		for _, life := range edges {
			for _, seq := range edges[1:] {
				list = append(list, api.Luw{Unit: u, Life: life, Seq: seq})
			}
		}
	}
	return list
}

func wrongNames() []api.Luw {
	list := []api.Luw{zero, {Unit: 5}, {Unit: 1, Life: 7}, {Life: top}}
	for _, u := range []int{-1, 6, 7, 25, 97, 255, 256, 257, -256, -255, 1 << 32, math.MaxInt, math.MinInt} {
		list = append(list, api.Luw{Unit: u, Life: 1, Seq: 1}, api.Luw{Unit: u})
	}
	return list
}

// plainBytes is a name's bytes as the words say, byte by byte.
func plainBytes(l api.Luw) []byte {
	b := []byte{byte(l.Unit)}
	for _, n := range []uint32{l.Life, l.Seq} {
		for _, d := range []uint32{1 << 24, 1 << 16, 1 << 8, 1} {
			b = append(b, byte(n/d%256))
		}
	}
	return b
}

func plainText(l api.Luw) string {
	return string(rune('a'+l.Unit)) + strconv.FormatUint(uint64(l.Life), 10) + "." + strconv.FormatUint(uint64(l.Seq), 10)
}

func randomName(r *rand.Rand) api.Luw {
	pick := func() uint32 {
		if r.Intn(2) == 0 {
			return edges[r.Intn(len(edges))]
		}
		return r.Uint32() >> r.Intn(32)
	}
	return api.Luw{Unit: r.Intn(6), Life: pick(), Seq: max(pick(), 1)}
}

// P5.1

func TestRightTellsWhatMayBe(t *testing.T) {
	for _, l := range rightNames() {
		if !luw.Right(l) {
			t.Errorf("%v may not be", l)
		}
	}
	for _, l := range wrongNames() {
		if luw.Right(l) {
			t.Errorf("%v may be", l)
		}
	}
}

func TestWriteGivesANamesBytes(t *testing.T) {
	if b, e := luw.Write(api.Luw{Unit: 1, Life: 20, Seq: 3}); e != api.OK || !bytes.Equal(b, []byte{1, 0, 0, 0, 20, 0, 0, 0, 3}) {
		t.Errorf("the example: %v, %v", b, e)
	}
	if b, e := luw.Write(api.Luw{Unit: 5, Life: 0x01020304, Seq: 0x05060708}); e != api.OK || !bytes.Equal(b, []byte{5, 1, 2, 3, 4, 5, 6, 7, 8}) {
		t.Errorf("each byte another: %v, %v", b, e)
	}
	for _, l := range rightNames() {
		if b, e := luw.Write(l); e != api.OK || !bytes.Equal(b, plainBytes(l)) {
			t.Errorf("Write(%v) = %v, %v", l, b, e)
		}
	}
	for _, l := range wrongNames() {
		if b, e := luw.Write(l); e != api.ErrName || len(b) != 0 {
			t.Errorf("Write(%v) = %v, %v", l, b, e)
		}
	}
}

func TestReadGivesAName(t *testing.T) {
	for _, l := range rightNames() {
		if m, e := luw.Read(plainBytes(l)); e != api.OK || m != l {
			t.Errorf("Read of %v = %v, %v", l, m, e)
		}
	}
}

func TestReadRefuses(t *testing.T) {
	refused := func(b []byte, want api.Errno) {
		t.Helper()
		if l, e := luw.Read(b); e != want || l != zero {
			t.Errorf("Read(%v) = %v, %v; want %v", b, l, e, want)
		}
	}
	whole := []byte{1, 0, 0, 0, 20, 0, 0, 0, 3}
	for n := range len(whole) {
		refused(whole[:n], api.ErrShort)
	}
	refused(nil, api.ErrShort)
	refused(append(bytes.Clone(whole), 0), api.ErrLong)
	refused(append(bytes.Clone(whole), whole...), api.ErrLong)
	refused(make([]byte, 8), api.ErrShort) // ahead of ErrName
	refused(make([]byte, 10), api.ErrLong)
	refused(make([]byte, 9), api.ErrName)
	refused([]byte{1, 0, 0, 0, 20, 0, 0, 0, 0}, api.ErrName)
	for u := 6; u < 256; u++ {
		refused([]byte{byte(u), 0, 0, 0, 20, 0, 0, 0, 3}, api.ErrName)
	}
}

// P5.2

func TestPrintGivesANamesText(t *testing.T) {
	for text, l := range map[string]api.Luw{
		"b20.3":                  {Unit: 1, Life: 20, Seq: 3},
		"a0.1":                   {Seq: 1},
		"f4294967295.4294967295": {Unit: 5, Life: top, Seq: top},
		"c100.1000":              {Unit: 2, Life: 100, Seq: 1000},
		"a1.65537":               {Life: 1, Seq: 65537},
	} {
		if s := luw.Print(l); s != text {
			t.Errorf("Print(%v) = %q; want %q", l, s, text)
		}
	}
	for _, l := range rightNames() {
		if s := luw.Print(l); s != plainText(l) {
			t.Errorf("Print(%v) = %q", l, s)
		}
	}
	for _, l := range wrongNames() {
		if s := luw.Print(l); s != "" {
			t.Errorf("Print(%v) = %q", l, s)
		}
	}
}

func TestParseGivesAName(t *testing.T) {
	for _, l := range rightNames() {
		if m, e := luw.Parse(plainText(l)); e != api.OK || m != l {
			t.Errorf("Parse(%q) = %v, %v", plainText(l), m, e)
		}
	}
}

func TestParseRefuses(t *testing.T) {
	for _, s := range []string{
		"", "a", "a.", "a1", "a1.", "a.1", ".1", "1.1", "11.1", "a1..1", "a1.1.", "a1.1.1", "a1,1", "a1:1", "a1/1",
		"g1.1", "`1.1", "A1.1", "B20.3", "z1.1", "\x001.1", "\xff1.1", "ä1.1", "aa1.1", "ab.1",
		"a1.0", "a0.0", "a1.00", "a00.1", "a01.1", "a1.01", "a1.00001", "a020.3", "b20.03", "a0000000000.1", "a1.0000000001",
		"a+1.1", "a-1.1", "a1.+1", "a1.-1", "a 1.1", " a1.1", "a1.1 ", "a1. 1", "a1 .1", "a1.1\n", "a1_0.1", "a1.1_0",
		"a0x1.1", "a1.0x1", "a1e1.1", "a1.1e1", "a1.1a", "a1b.1", "a1.b", "a١.1", "a1.١",
		"a4294967296.1", "a1.4294967296", "a4294967297.1", "a1.4294967297", "a9999999999.1", "a1.9999999999", "a42949672950.1", "a1.42949672950",
		"a18446744073709551616.1", "a1.18446744073709551616", "a18446744073709551617.1", "a1.18446744073709551617", "a1.8589934593",
		"a" + strings.Repeat("9", 5000) + ".1", "a1." + strings.Repeat("1", 5000), strings.Repeat("a", 5000), "a1." + strings.Repeat("0", 5000) + "1",
	} {
		if l, e := luw.Parse(s); e != api.ErrName || l != zero {
			t.Errorf("Parse(%q) = %v, %v", s, l, e)
		}
	}
}

// P5.3

// plainLess asks of unit, life, seq in their order.
func plainLess(a, b api.Luw) bool {
	return a.Unit < b.Unit || a.Unit == b.Unit && (a.Life < b.Life || a.Life == b.Life && a.Seq < b.Seq)
}

func TestLess(t *testing.T) {
	units := []int{math.MinInt, -1, 0, 1, 5, 6, 1 << 40, math.MaxInt}
	numbers := []uint32{0, 1, 255, 256, 1 << 31, top}
	var list []api.Luw
	for _, u := range units {
		for _, life := range numbers {
			for _, seq := range numbers {
				list = append(list, api.Luw{Unit: u, Life: life, Seq: seq})
			}
		}
	}
	for _, a := range list {
		for _, b := range list {
			if luw.Less(a, b) != plainLess(a, b) {
				t.Fatalf("Less(%v, %v) = %v", a, b, luw.Less(a, b))
			}
		}
	}
}

func TestNext(t *testing.T) {
	for _, l := range rightNames() {
		m, e := luw.Next(l)
		switch {
		case l.Seq == top:
			if e != api.ErrFull || m != zero {
				t.Errorf("Next(%v) = %v, %v", l, m, e)
			}
		case e != api.OK || m != api.Luw{Unit: l.Unit, Life: l.Life, Seq: l.Seq + 1}:
			t.Errorf("Next(%v) = %v, %v", l, m, e)
		}
	}
	for _, l := range append(wrongNames(), api.Luw{Unit: 6, Seq: top}, api.Luw{Unit: -1, Seq: top}) {
		if m, e := luw.Next(l); e != api.ErrName || m != zero {
			t.Errorf("Next(%v) = %v, %v", l, m, e)
		}
	}
}

// P5.4

func TestNamesGoThereAndBack(t *testing.T) {
	r := rand.New(rand.NewSource(1))
	for range 20000 {
		l := randomName(r)
		b, e := luw.Write(l)
		if m, f := luw.Read(b); e != api.OK || f != api.OK || m != l {
			t.Fatalf("%v as bytes %v, %v: %v, %v", l, b, e, m, f)
		}
		s := luw.Print(l)
		if m, f := luw.Parse(s); f != api.OK || m != l {
			t.Fatalf("%v as text %q: %v, %v", l, s, m, f)
		}
	}
}

func TestInOneWayAlone(t *testing.T) {
	r := rand.New(rand.NewSource(2))
	parsed, read := 0, 0
	for range 200000 {
		s := []byte(luw.Print(randomName(r)))
		if r.Intn(2) == 0 {
			s = []byte(luw.Print(api.Luw{Unit: r.Intn(6), Life: uint32(r.Intn(11)), Seq: 1 + uint32(r.Intn(10))}))
		}
		at := r.Intn(len(s))
		s[at] = "0123456789.abfg+"[r.Intn(16)]
		if l, e := luw.Parse(string(s)); e == api.OK {
			parsed++
			if luw.Print(l) != string(s) {
				t.Fatalf("Parse(%q) = %v, whose text is %q", s, l, luw.Print(l))
			}
		}
		b := plainBytes(randomName(r))
		b[r.Intn(9)] = byte(r.Intn(10))
		if l, e := luw.Read(b); e == api.OK {
			read++
			if c, f := luw.Write(l); f != api.OK || !bytes.Equal(b, c) {
				t.Fatalf("Read(%v) = %v, whose bytes are %v", b, l, c)
			}
		}
	}
	if parsed < 1000 || read < 1000 {
		t.Errorf("only %d texts and %d rows of bytes were names", parsed, read)
	}
}

// P5.5

func TestTheOrderIsTotalAndThatOfTheBytes(t *testing.T) {
	r := rand.New(rand.NewSource(3))
	for range 100000 {
		a, b := randomName(r), randomName(r)
		switch r.Intn(4) {
		case 0:
			b.Unit = a.Unit
		case 1:
			b.Unit, b.Life = a.Unit, a.Life
		case 2:
			b = a
		}
		order := bytes.Compare(plainBytes(a), plainBytes(b))
		if luw.Less(a, b) != (order < 0) || luw.Less(b, a) != (order > 0) {
			t.Fatalf("Less of %v and %v: %v, %v; the bytes say %d", a, b, luw.Less(a, b), luw.Less(b, a), order)
		}
	}
}

// P5.6

func TestTheNextOneIsGreaterAndNothingLiesBetween(t *testing.T) {
	r := rand.New(rand.NewSource(4))
	for range 20000 {
		l := randomName(r)
		if l.Seq == top {
			continue
		}
		n, e := luw.Next(l)
		if e != api.OK || !luw.Right(n) || !luw.Less(l, n) {
			t.Fatalf("Next(%v) = %v, %v", l, n, e)
		}
		other := randomName(r)
		if r.Intn(2) == 0 {
			other = api.Luw{Unit: l.Unit, Life: l.Life, Seq: l.Seq + uint32(r.Intn(5)) - 2}
		}
		if luw.Less(l, other) && luw.Less(other, n) {
			t.Fatalf("%v lies between %v and %v", other, l, n)
		}
	}
}

// Rule 5, P1

func TestWhatIsHandedInIsNotChangedWhatIsHandedOutIsNew(t *testing.T) {
	behind := []byte{1, 0, 0, 0, 20, 0, 0, 0, 3, 77, 78}
	in := behind[:9]
	l, e := luw.Read(in)
	if e != api.OK || !bytes.Equal(behind, []byte{1, 0, 0, 0, 20, 0, 0, 0, 3, 77, 78}) {
		t.Errorf("Read changed what it read: %v, %v", behind, e)
	}
	a, _ := luw.Write(l)
	clear(a)
	if b, _ := luw.Write(l); !bytes.Equal(b, in) {
		t.Errorf("Write hands out what it handed out: %v", b)
	}
}

func TestNoCallPanics(t *testing.T) {
	r := rand.New(rand.NewSource(5))
	for range 20000 {
		b := make([]byte, r.Intn(30))
		r.Read(b)
		luw.Read(b)
		luw.Parse(string(b))
		luw.Parse("a" + string(b))
		l := api.Luw{Unit: int(r.Uint64()), Life: r.Uint32(), Seq: r.Uint32() >> r.Intn(33)}
		luw.Right(l)
		luw.Write(l)
		luw.Print(l)
		luw.Next(l)
	}
}
