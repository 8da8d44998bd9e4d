package oct_test

import (
	"bytes"
	"encoding/binary"
	"encoding/hex"
	"hash/adler32"
	"math"
	"math/big"
	"math/rand"
	"slices"
	"strings"
	"testing"

	"troth/api"
	"troth/oct"
)

var none api.Fault

// roomy is a copy of b with other bytes behind its length.
func roomy(b []byte) []byte {
	return append(slices.Clone(b), 0xaa, 0xbb, 0xcc, 0xdd, 0xee, 0xff, 0x11, 0x22, 0x33)[:len(b)]
}

func untouched(t *testing.T, what string, b, want []byte) {
	t.Helper()
	if !bytes.Equal(b, want) {
		t.Errorf("%s changed what it was given: %v, was %v", what, b, want)
	}
	if whole := b[:cap(b)]; !bytes.HasPrefix(whole[len(b):], []byte{0xaa, 0xbb, 0xcc, 0xdd, 0xee, 0xff, 0x11, 0x22, 0x33}) {
		t.Errorf("%s wrote behind the length of what it was given", what)
	}
}

func equalParts(a, b [][]byte) bool { return slices.EqualFunc(a, b, bytes.Equal) }

func samples(r *rand.Rand, many, most int) [][]byte {
	list := [][]byte{nil, {}, {0}, {255}, []byte("abc"), bytes.Repeat([]byte{255}, 6000), make([]byte, 70000)}
	for range many {
		b := make([]byte, r.Intn(most+1))
		r.Read(b)
		list = append(list, b)
	}
	return list
}

func sampleParts(r *rand.Rand) [][]byte {
	parts := make([][]byte, r.Intn(12))
	for i := range parts {
		parts[i] = make([]byte, []int{0, 1, 2, 3, 255, 256, 257, 600}[r.Intn(8)])
		r.Read(parts[i])
	}
	return parts
}

// P1.1

func TestPutGivesTheGreatestByteFirst(t *testing.T) {
	for _, c := range []struct {
		v    uint64
		n    int
		want []byte
	}{
		{0, 1, []byte{0}},
		{0, 8, make([]byte, 8)},
		{255, 1, []byte{255}},
		{256, 2, []byte{1, 0}},
		{258, 2, []byte{1, 2}},
		{258, 4, []byte{0, 0, 1, 2}},
		{0x01020304050607, 7, []byte{1, 2, 3, 4, 5, 6, 7}},
		{0x0102030405060708, 8, []byte{1, 2, 3, 4, 5, 6, 7, 8}},
		{math.MaxUint64, 8, bytes.Repeat([]byte{255}, 8)},
	} {
		if b, e := oct.Put(c.v, c.n); e != api.OK || !bytes.Equal(b, c.want) {
			t.Errorf("Put(%d, %d) = %v, %v; want %v", c.v, c.n, b, e, c.want)
		}
	}
}

func TestPutRefusesACountOfBytesThatIsNone(t *testing.T) {
	for _, n := range []int{math.MinInt, -8, -1, 0, 9, 64, math.MaxInt} {
		for _, v := range []uint64{0, 1, math.MaxUint64} { // ErrArg comes ahead of ErrWide
			if b, e := oct.Put(v, n); e != api.ErrArg || len(b) != 0 {
				t.Errorf("Put(%d, %d) = %v, %v", v, n, b, e)
			}
		}
	}
}

func TestPutRefusesANumberThatIsTooWide(t *testing.T) {
	for n := 1; n <= 7; n++ {
		first := uint64(1) << (8 * n)
		for _, v := range []uint64{first, first + 1, math.MaxUint64, 1 << 63} {
			if b, e := oct.Put(v, n); e != api.ErrWide || len(b) != 0 {
				t.Errorf("Put(%d, %d) = %v, %v", v, n, b, e)
			}
		}
		if b, e := oct.Put(first-1, n); e != api.OK || !bytes.Equal(b, bytes.Repeat([]byte{255}, n)) {
			t.Errorf("Put(%d, %d) = %v, %v", first-1, n, b, e)
		}
	}
}

func TestGetReadsTheGreatestByteFirst(t *testing.T) {
	for _, c := range []struct {
		b    []byte
		want uint64
	}{
		{[]byte{0}, 0},
		{[]byte{7}, 7},
		{[]byte{1, 2}, 258},
		{[]byte{0, 0, 1, 2}, 258},
		{[]byte{255, 0, 0, 0, 0, 0, 0, 1}, 0xff00000000000001},
		{bytes.Repeat([]byte{255}, 8), math.MaxUint64},
	} {
		b := roomy(c.b)
		if v, e := oct.Get(b); e != api.OK || v != c.want {
			t.Errorf("Get(%v) = %d, %v; want %d", c.b, v, e, c.want)
		}
		untouched(t, "Get", b, c.b)
	}
}

func TestGetRefusesBytesThatAreNoNumber(t *testing.T) {
	for _, b := range [][]byte{nil, {}, roomy(nil), make([]byte, 9), bytes.Repeat([]byte{1}, 1000)} {
		if v, e := oct.Get(b); e != api.ErrArg || v != 0 {
			t.Errorf("Get of %d bytes = %d, %v", len(b), v, e)
		}
	}
}

// P1.2

func TestJoinPutsALengthAheadOfEachPart(t *testing.T) {
	for _, c := range []struct {
		parts [][]byte
		want  []byte
	}{
		{nil, nil},
		{[][]byte{}, nil},
		{[][]byte{nil}, []byte{0, 0}},
		{[][]byte{[]byte("a"), nil}, []byte{0, 1, 97, 0, 0}},
		{[][]byte{{}, {1, 2}, {3}}, []byte{0, 0, 0, 2, 1, 2, 0, 1, 3}},
		{[][]byte{make([]byte, 258)}, append([]byte{1, 2}, make([]byte, 258)...)},
		{[][]byte{make([]byte, 65535), {9}}, append(append([]byte{255, 255}, make([]byte, 65535)...), 0, 1, 9)},
	} {
		if b, e := oct.Join(c.parts); e != api.OK || !bytes.Equal(b, c.want) {
			t.Errorf("Join of %d parts = %d bytes, %v; want %d", len(c.parts), len(b), e, len(c.want))
		}
	}
}

func TestJoinRefusesTooManyOrTooLongParts(t *testing.T) {
	if b, e := oct.Join(make([][]byte, 1000)); e != api.OK || !bytes.Equal(b, make([]byte, 2000)) {
		t.Errorf("Join of 1000 parts = %d bytes, %v", len(b), e)
	}
	long := make([]byte, 65536)
	for name, parts := range map[string][][]byte{
		"1001 parts":              make([][]byte, 1001),
		"a long part":             {long},
		"a long part at the end":  {{1}, {2}, long},
		"a long part in front":    {long, {1}},
		"1001 parts, a long part": append(make([][]byte, 1000), long),
	} {
		if b, e := oct.Join(parts); e != api.ErrLong || len(b) != 0 {
			t.Errorf("Join of %s = %d bytes, %v", name, len(b), e)
		}
	}
}

func TestSplitGivesTheParts(t *testing.T) {
	for _, c := range []struct {
		b    []byte
		want [][]byte
	}{
		{nil, nil},
		{[]byte{}, nil},
		{[]byte{0, 0}, [][]byte{{}}},
		{[]byte{0, 1, 97, 0, 0}, [][]byte{{97}, {}}},
		{[]byte{0, 0, 0, 2, 1, 2, 0, 1, 3}, [][]byte{{}, {1, 2}, {3}}},
		{append([]byte{1, 2}, make([]byte, 258)...), [][]byte{make([]byte, 258)}},
		{make([]byte, 2000), make([][]byte, 1000)},
	} {
		if parts, f := oct.Split(c.b); f != none || !equalParts(parts, c.want) {
			t.Errorf("Split of %d bytes = %d parts, %v; want %d", len(c.b), len(parts), f, len(c.want))
		}
	}
}

func TestSplitTellsWhereAPartIsShort(t *testing.T) {
	for _, c := range []struct {
		b  []byte
		at int
	}{
		{[]byte{0}, 0},
		{[]byte{7}, 0},
		{[]byte{0, 1}, 0},
		{[]byte{255, 255, 1}, 0},
		{[]byte{1, 0, 5}, 0}, // 256 bytes, not 0 or 1
		{[]byte{0, 1, 5, 0}, 3},
		{[]byte{0, 1, 5, 0, 2, 7}, 3},
		{[]byte{0, 0, 0, 0, 0}, 4},
		{append(make([]byte, 2000), 0), 2000},
		{append(make([]byte, 2000), 0, 1), 2000},
		{append(make([]byte, 1998), 0, 3, 1, 2), 1998},
	} {
		// What stands behind the length would make the part whole.
		if parts, f := oct.Split(roomy(c.b)); f != (api.Fault{At: c.at, Code: api.ErrShort}) || len(parts) != 0 {
			t.Errorf("Split of %d bytes = %d parts, %v; want place %d", len(c.b), len(parts), f, c.at)
		}
	}
}

func TestSplitTellsTooManyPartsAheadOfAShortOne(t *testing.T) {
	for name, b := range map[string][]byte{
		"1001 parts":                    make([]byte, 2002),
		"5000 parts":                    make([]byte, 10000),
		"1001 parts, one byte behind":   make([]byte, 2003),
		"1001 parts, then a short one":  append(make([]byte, 2002), 0, 5, 1),
		"a part of data, then 1000":     append([]byte{0, 2, 8, 9}, make([]byte, 2000)...),
		"1000, then a part of data":     append(make([]byte, 2000), 0, 1, 9),
		"1200 parts, a long short part": append(make([]byte, 2400), 255, 255),
	} {
		if parts, f := oct.Split(b); f != (api.Fault{At: 0, Code: api.ErrLong}) || len(parts) != 0 {
			t.Errorf("Split of %s = %d parts, %v", name, len(parts), f)
		}
	}
}

// P1.3

func TestSumIsAsTheWordsSay(t *testing.T) {
	if s := oct.Sum([]byte("abc")); s != 38600999 {
		t.Errorf("Sum of abc = %d", s)
	}
	if s := oct.Sum(nil); s != 1 {
		t.Errorf("Sum of nothing = %d", s)
	}
	for _, b := range samples(rand.New(rand.NewSource(1)), 300, 9000) {
		if s, want := oct.Sum(b), adler32.Checksum(b); s != want {
			t.Errorf("Sum of %d bytes = %d; want %d", len(b), s, want)
		}
	}
}

// bothByWords works Both out with numbers that have no bound.
func bothByWords(x, y uint32, n int) uint32 {
	base := big.NewInt(65521)
	num := func(v int64) *big.Int { return big.NewInt(v) }
	a, c, d, e := num(int64(x%65536)), num(int64(x/65536)), num(int64(y%65536)), num(int64(y/65536))
	low := new(big.Int).Add(a, d)
	low.Sub(low, num(1)).Mod(low, base)
	high := new(big.Int).Sub(a, num(1))
	high.Mul(high, num(int64(max(n, 0))))
	high.Add(high, c).Add(high, e).Mod(high, base)
	return uint32(high.Int64()*65536 + low.Int64())
}

func TestBothOfAnyNumbers(t *testing.T) {
	words := []uint32{0, 1, 2, 65519, 65520, 65521, 65522, 65535, 65536, 65520 << 16, 65521 << 16, 0xffff0000, 0xfff1fff1, 0xfff0fff0, math.MaxUint32, 0x024d0127}
	counts := []int{math.MinInt, -65521, -1, 0, 1, 2, 65520, 65521, 65522, 131042, math.MaxInt32, math.MaxInt - 1, math.MaxInt}
	r := rand.New(rand.NewSource(2))
	for range 60 {
		words = append(words, r.Uint32())
	}
	for _, x := range words {
		for _, y := range words {
			for _, n := range counts {
				got, want := oct.Both(x, y, n), bothByWords(x, y, n)
				if got != want || got&0xffff > 65520 || got>>16 > 65520 {
					t.Fatalf("Both(%#x, %#x, %d) = %#x; want %#x", x, y, n, got, want)
				}
			}
		}
	}
}

// P1.4

func TestHexGivesTheGreaterDigitFirst(t *testing.T) {
	if s := oct.Hex([]byte{0, 1, 0x2f, 0x9a, 0xbc, 0xde, 255}); s != "00012f9abcdeff" {
		t.Errorf("Hex = %q", s)
	}
	if s := oct.Hex(nil); s != "" {
		t.Errorf("Hex of nothing = %q", s)
	}
	for _, b := range samples(rand.New(rand.NewSource(3)), 50, 500) {
		if s := oct.Hex(b); s != hex.EncodeToString(b) {
			t.Errorf("Hex of %d bytes = %q", len(b), s)
		}
	}
}

func TestUnhexReadsBytes(t *testing.T) {
	if b, f := oct.Unhex("00012f9abcdeff"); f != none || !bytes.Equal(b, []byte{0, 1, 0x2f, 0x9a, 0xbc, 0xde, 255}) {
		t.Errorf("Unhex = %v, %v", b, f)
	}
	if b, f := oct.Unhex(""); f != none || len(b) != 0 {
		t.Errorf("Unhex of nothing = %v, %v", b, f)
	}
}

func TestUnhexTellsWhereTheFormBreaks(t *testing.T) {
	for s, at := range map[string]int{
		"g":            0,
		"0g":           1,
		"0g0g":         1,
		"00g":          2, // the digit ahead of the odd number
		"0":            1,
		"abc":          3,
		"0A":           1,
		"F0":           0,
		"00 11":        2,
		"00\n":         2,
		"12/4":         2,
		"12:4":         2,
		"12`4":         2,
		"00\u00e911":   2,
		"\u0661\u0661": 0, // digits, but not of these
		"0x12":         1,
		"\xff":         0,
		"00\x00":       2,
		"+1":           0,
	} {
		if b, f := oct.Unhex(s); f != (api.Fault{At: at, Code: api.ErrForm}) || len(b) != 0 {
			t.Errorf("Unhex(%q) = %v, %v; want place %d", s, b, f, at)
		}
	}
}

func TestUnhexTakesTheSixteenDigitsAlone(t *testing.T) {
	for c := range 256 {
		s := "1" + string([]byte{byte(c)})
		v := strings.IndexByte("0123456789abcdef", byte(c))
		b, f := oct.Unhex(s)
		if v >= 0 && (f != none || !bytes.Equal(b, []byte{byte(16 + v)})) {
			t.Errorf("Unhex(%q) = %v, %v", s, b, f)
		}
		if v < 0 && (f != (api.Fault{At: 1, Code: api.ErrForm}) || len(b) != 0) {
			t.Errorf("Unhex(%q) = %v, %v", s, b, f)
		}
	}
}

// P1.5

func TestNumbersGoThereAndBack(t *testing.T) {
	r := rand.New(rand.NewSource(4))
	for range 2000 {
		n := 1 + r.Intn(8)
		v := r.Uint64() >> (8 * (8 - n))
		b, e := oct.Put(v, n)
		if back, e2 := oct.Get(b); e != api.OK || e2 != api.OK || back != v || len(b) != n {
			t.Fatalf("%d in %d bytes: %v, %v, back %d, %v", v, n, b, e, back, e2)
		}
		var whole [8]byte
		binary.BigEndian.PutUint64(whole[:], v)
		if !bytes.Equal(b, whole[8-n:]) {
			t.Fatalf("%d in %d bytes: %v", v, n, b)
		}
		if again, e := oct.Put(v, len(b)); e != api.OK || !bytes.Equal(again, b) {
			t.Fatalf("back there: %v, %v", again, e)
		}
	}
}

func TestListsGoThereAndBack(t *testing.T) {
	r := rand.New(rand.NewSource(5))
	for range 500 {
		parts := sampleParts(r)
		b, e := oct.Join(parts)
		back, f := oct.Split(b)
		if e != api.OK || f != none || !equalParts(back, parts) {
			t.Fatalf("%d parts: %v, %v, %d back", len(parts), e, f, len(back))
		}
		if again, e := oct.Join(back); e != api.OK || !bytes.Equal(again, b) {
			t.Fatalf("joined again: %v", e)
		}
	}
	long := bytes.Repeat([]byte{7}, 65535)
	b, _ := oct.Join([][]byte{long, nil, long})
	if back, f := oct.Split(b); f != none || !equalParts(back, [][]byte{long, nil, long}) {
		t.Errorf("the longest parts: %v, %d back", f, len(back))
	}
}

func TestAListThatIsCutIsReadOnlyBetweenParts(t *testing.T) {
	parts := [][]byte{{1, 2, 3}, nil, {4}, {5, 6}}
	b, _ := oct.Join(parts)
	ends := []int{0, 5, 7, 10, 14}
	for n := range len(b) + 1 {
		got, f := oct.Split(b[:n])
		if i := slices.Index(ends, n); i >= 0 {
			if f != none || !equalParts(got, parts[:i]) {
				t.Errorf("cut at %d: %v, %v", n, got, f)
			}
			continue
		}
		last := 0
		for _, end := range ends {
			if end < n {
				last = end
			}
		}
		if f != (api.Fault{At: last, Code: api.ErrShort}) || len(got) != 0 {
			t.Errorf("cut at %d: %v, %v; want place %d", n, got, f, last)
		}
	}
}

func TestDigitsGoThereAndBack(t *testing.T) {
	for _, b := range samples(rand.New(rand.NewSource(6)), 100, 400) {
		s := oct.Hex(b)
		if back, f := oct.Unhex(s); f != none || !bytes.Equal(back, b) || oct.Hex(back) != s {
			t.Errorf("%d bytes: %v", len(b), f)
		}
	}
}

// P1.6

func TestBothIsTheSumOfTwoTexts(t *testing.T) {
	list := samples(rand.New(rand.NewSource(7)), 30, 3000)
	for _, x := range list {
		for _, y := range list {
			want := oct.Sum(append(slices.Clone(x), y...))
			if got := oct.Both(oct.Sum(x), oct.Sum(y), len(y)); got != want {
				t.Errorf("of %d and %d bytes: %#x; want %#x", len(x), len(y), got, want)
			}
		}
	}
}

// P1.7

func TestATurnedByteGivesAnotherSum(t *testing.T) {
	b := make([]byte, 60)
	rand.New(rand.NewSource(8)).Read(b)
	s := oct.Sum(b)
	for i := range b {
		for by := 1; by < 256; by++ {
			b[i] ^= byte(by)
			if oct.Sum(b) == s {
				t.Errorf("byte %d turned by %d: the same sum", i, by)
			}
			b[i] ^= byte(by)
		}
	}
}

// Rules 5 and 7: nothing handed in is changed or kept, what is handed out is new.

func TestNothingHandedInIsChanged(t *testing.T) {
	plain := []byte{0, 2, 8, 9, 0, 0, 0, 1, 5}
	b := roomy(plain)
	oct.Sum(b)
	untouched(t, "Sum", b, plain)
	oct.Hex(b)
	untouched(t, "Hex", b, plain)
	oct.Split(b)
	untouched(t, "Split", b, plain)
	parts := append([][]byte{roomy(plain), nil, roomy(plain[:3])}, []byte("behind"))[:3]
	oct.Join(parts)
	untouched(t, "Join", parts[0], plain)
	untouched(t, "Join", parts[2], plain[:3])
	if parts[1] != nil || string(parts[:4][3]) != "behind" {
		t.Errorf("Join changed its list: %v", parts[:4])
	}
}

func TestSplitGivesEachPartMemoryOfItsOwn(t *testing.T) {
	b := []byte{0, 2, 8, 9, 0, 2, 6, 7, 0, 0, 0, 1, 5}
	plain := slices.Clone(b)
	parts, _ := oct.Split(b)
	want := [][]byte{{8, 9}, {6, 7}, {}, {5}}
	for i := range parts {
		clear(append(parts[i], 99, 99, 99))
		clear(parts[i])
		want[i] = make([]byte, len(want[i]))
		if !equalParts(parts, want) {
			t.Fatalf("clearing part %d reached another one: %v", i, parts)
		}
	}
	if !bytes.Equal(b, plain) {
		t.Errorf("clearing the parts reached what was handed in: %v", b)
	}
	parts, _ = oct.Split(b)
	clear(b)
	if !equalParts(parts, [][]byte{{8, 9}, {6, 7}, {}, {5}}) {
		t.Errorf("the parts hang on what was handed in: %v", parts)
	}
}

func TestJoinAndPutAndUnhexGiveNewMemory(t *testing.T) {
	p := []byte{1, 2}
	b, _ := oct.Join([][]byte{p})
	p[0] = 9
	c, _ := oct.Join([][]byte{{1, 2}})
	if !bytes.Equal(b, []byte{0, 2, 1, 2}) || !bytes.Equal(b, c) {
		t.Errorf("Join: %v, %v", b, c)
	}
	clear(b)
	if p[1] != 2 || c[1] != 2 {
		t.Errorf("Join shares: %v, %v", p, c)
	}
	x, _ := oct.Put(258, 2)
	y, _ := oct.Put(258, 2)
	clear(x)
	if !bytes.Equal(y, []byte{1, 2}) {
		t.Errorf("Put shares: %v", y)
	}
	x, _ = oct.Unhex("0102")
	y, _ = oct.Unhex("0102")
	clear(x)
	if !bytes.Equal(y, []byte{1, 2}) {
		t.Errorf("Unhex shares: %v", y)
	}
}

// P1: every call ends and none panics.

func TestNoCallPanics(t *testing.T) {
	r := rand.New(rand.NewSource(9))
	numbers := []int{math.MinInt, math.MinInt32, -1, 0, 1, 8, 9, 65521, math.MaxInt32, math.MaxInt}
	for _, n := range numbers {
		for _, v := range []uint64{0, 1, 255, 256, math.MaxUint64} {
			oct.Put(v, n)
			oct.Both(uint32(v), uint32(v>>1), n)
		}
	}
	for range 3000 {
		b := make([]byte, r.Intn(40))
		for i := range b { // small lengths are the ones that lead on
			b[i] = byte(r.Intn(4))
		}
		oct.Get(b)
		oct.Sum(b)
		oct.Hex(b)
		oct.Unhex(string(b))
		parts, f := oct.Split(b)
		oct.Join(parts)
		if f.Code == api.OK && f.At != 0 || f.Code != api.OK && len(parts) != 0 {
			t.Fatalf("Split(%v) = %v, %v", b, parts, f)
		}
	}
}
