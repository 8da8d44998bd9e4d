package res_test

import (
	"bytes"
	"math"
	"math/rand"
	"slices"
	"testing"

	"troth/api"
	"troth/res"
)

// P15.4

// writes holds the bytes of a row of changes, and that they are read.
func writes(t *testing.T, list []api.Change, want []byte) {
	t.Helper()
	b, e := res.Write(list)
	if e != api.OK || !bytes.Equal(b, want) {
		t.Fatalf("Write(%v) = %v, %v; want %v", list, b, e, want)
	}
	reads(t, want, list)
}

func reads(t *testing.T, b []byte, want []api.Change) {
	t.Helper()
	list, e := res.Read(b)
	if e != api.OK || !slices.Equal(list, want) {
		t.Fatalf("Read(%v) = %v, %v; want %v", b, list, e, want)
	}
}

func writeRefused(t *testing.T, list []api.Change, want api.Errno) {
	t.Helper()
	if b, e := res.Write(list); len(b) != 0 || e != want {
		t.Fatalf("Write(%v) = %v, %v; want %v", list, b, e, want)
	}
}

func readRefused(t *testing.T, b []byte, want api.Errno) {
	t.Helper()
	if list, e := res.Read(b); len(list) != 0 || e != want {
		t.Fatalf("Read(%v) = %v, %v; want %v", b, list, e, want)
	}
}

// bytesOf is a change's bytes.
func bytesOf(kind byte, key, val uint64) []byte {
	b := []byte{kind}
	for _, v := range []uint64{key, val} {
		for shift := 56; shift >= 0; shift -= 8 {
			b = append(b, byte(v>>shift))
		}
	}
	return b
}

func TestTheBytesOfChanges(t *testing.T) {
	writes(t, nil, nil)
	writes(t, []api.Change{}, nil)
	writes(t, rows(put(3, 9)), []byte{1, 0, 0, 0, 0, 0, 0, 0, 3, 0, 0, 0, 0, 0, 0, 0, 9})
	writes(t, rows(api.Change{Kind: 4, Key: 0x0102030405060708, Val: 0xf1f2f3f4f5f6f7f8}),
		[]byte{4, 1, 2, 3, 4, 5, 6, 7, 8, 0xf1, 0xf2, 0xf3, 0xf4, 0xf5, 0xf6, 0xf7, 0xf8})
	writes(t, rows(put(3, 9), in(7)), slices.Concat(bytesOf(1, 3, 9), bytesOf(3, 0, 7)))
	writes(t, rows(in(7), del(15), out(1, math.MaxUint64), put(0, 0)),
		slices.Concat(bytesOf(3, 0, 7), bytesOf(2, 15, 0), bytesOf(4, 1, math.MaxUint64), bytesOf(1, 0, 0)))
}

// Neither Write nor Read asks more of a change than its kind and its key.
func TestChangesThatNoWorkMakes(t *testing.T) {
	for kind := 1; kind < 5; kind++ {
		for _, key := range []int{0, 15, 16, 17, 1 << 40, lastNext - 1, lastNext} {
			for _, val := range []uint64{0, 1, math.MaxUint64} {
				writes(t, rows(api.Change{Kind: kind, Key: key, Val: val}), bytesOf(byte(kind), uint64(key), val))
			}
		}
	}
	writes(t, rows(put(1, 1), put(1, 1), del(1)), slices.Concat(bytesOf(1, 1, 1), bytesOf(1, 1, 1), bytesOf(2, 1, 0)))
}

func TestChangesThatAreNotWritten(t *testing.T) {
	for _, bad := range []api.Change{
		{}, {Kind: 0, Key: 1, Val: 1}, {Kind: 5}, {Kind: -1}, {Kind: math.MinInt}, {Kind: math.MaxInt}, {Kind: 257}, {Kind: 1 << 32},
		put(-1, 1), del(-1), {Kind: 3, Key: -1}, {Kind: 4, Key: math.MinInt},
	} {
		writeRefused(t, rows(bad), api.ErrKind)
		writeRefused(t, rows(bad, put(1, 1)), api.ErrKind)
		writeRefused(t, rows(put(1, 1), in(1), bad), api.ErrKind)
		many := slices.Repeat(rows(in(1)), 48)
		many[47] = bad
		writeRefused(t, many, api.ErrKind)
		writeRefused(t, append(many, in(1)), api.ErrLong)
		writeRefused(t, slices.Repeat(rows(bad), 49), api.ErrLong)
	}
}

func TestFortyEightAreTheMost(t *testing.T) {
	list := slices.Repeat(rows(put(1, 2)), 48)
	b := bytes.Repeat(bytesOf(1, 1, 2), 48)
	writes(t, list, b)
	writeRefused(t, append(list, in(1)), api.ErrLong)
	readRefused(t, append(b, bytesOf(3, 0, 1)...), api.ErrLong)
	writeRefused(t, slices.Repeat(rows(put(1, 2)), 5000), api.ErrLong)
	readRefused(t, bytes.Repeat(bytesOf(1, 1, 2), 5000), api.ErrLong)
	readRefused(t, bytes.Repeat(bytesOf(9, 1, 2), 49), api.ErrLong)
}

// A Key above 2^62 is written, as Write's words have it, and is not read.
func TestKeysAboveTheMost(t *testing.T) {
	for _, key := range []uint64{1<<62 + 1, 1<<63 - 1, 1 << 63, math.MaxUint64} {
		for kind := byte(1); kind < 5; kind++ {
			readRefused(t, bytesOf(kind, key, 1), api.ErrKind)
			readRefused(t, append(bytesOf(1, 1, 1), bytesOf(kind, key, 1)...), api.ErrKind)
		}
	}
	for _, key := range []int{lastNext + 1, math.MaxInt} {
		if b, e := res.Write(rows(put(key, 1))); e != api.OK || !bytes.Equal(b, bytesOf(1, uint64(key), 1)) {
			t.Errorf("Write of the key %d = %v, %v", key, b, e)
		}
	}
}

func TestKindsThatAreNotRead(t *testing.T) {
	for kind := range 256 {
		b := bytesOf(byte(kind), 3, 9)
		if 1 <= kind && kind <= 4 {
			reads(t, b, rows(api.Change{Kind: kind, Key: 3, Val: 9}))
			continue
		}
		readRefused(t, b, api.ErrKind)
		readRefused(t, append(bytesOf(1, 1, 1), b...), api.ErrKind)
		readRefused(t, append(b, bytesOf(1, 1, 1)...), api.ErrKind)
	}
}

func TestBytesThatAreCut(t *testing.T) {
	for _, kind := range []byte{1, 9} {
		b := bytes.Repeat(bytesOf(kind, 1, 2), 50)
		for n := range len(b) {
			switch {
			case n%17 != 0:
				readRefused(t, b[:n], api.ErrShort)
			case n > 48*17:
				readRefused(t, b[:n], api.ErrLong)
			case n > 0 && kind == 9:
				readRefused(t, b[:n], api.ErrKind)
			default:
				reads(t, b[:n], slices.Repeat(rows(put(1, 2)), n/17))
			}
		}
	}
}

// P15.5, of changes

func TestChangesGoThereAndBack(t *testing.T) {
	r := rand.New(rand.NewSource(157))
	for range 3000 {
		var list []api.Change
		for range r.Intn(49) {
			list = append(list, api.Change{Kind: 1 + r.Intn(4), Key: int(r.Uint64() >> (2 + r.Intn(62))), Val: r.Uint64() >> r.Intn(64)})
		}
		b, e := res.Write(list)
		ok(t, "Write", e)
		if len(b) != 17*len(list) {
			t.Fatalf("%d bytes for %d changes", len(b), len(list))
		}
		reads(t, b, list)
	}
}

// Whatever is read is written the same.
func TestAnyBytes(t *testing.T) {
	r := rand.New(rand.NewSource(158))
	for range 3000 {
		b := make([]byte, r.Intn(60))
		for i := range b {
			b[i] = byte(r.Intn(6))
		}
		list, e := res.Read(b)
		if e != api.OK {
			if len(list) != 0 {
				t.Fatalf("Read(%v) = %v beside %v", b, list, e)
			}
			continue
		}
		writes(t, list, b)
	}
}

func TestBytesAndChangesAreNewMemory(t *testing.T) {
	list := rows(put(3, 9), in(7), api.Change{Kind: 9})
	b, e := res.Write(list[:2])
	ok(t, "Write", e)
	want := slices.Concat(bytesOf(1, 3, 9), bytesOf(3, 0, 7))
	room := append(slices.Clone(want), 99)
	reads(t, room[:34], list[:2])
	back, e := res.Read(b)
	ok(t, "Read", e)
	b[0] = 9
	if !slices.Equal(back, list[:2]) || list[2].Kind != 9 || room[34] != 99 {
		t.Errorf("%v, %v, %v", back, list, room)
	}
	back[0] = del(1)
	if c, e := res.Write(list[:2]); e != api.OK || !bytes.Equal(c, want) {
		t.Errorf("Write = %v, %v", c, e)
	}
}
