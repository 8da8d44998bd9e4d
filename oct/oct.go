// Package oct is layer 1: numbers and lists of texts as bytes, and sums of bytes.
package oct

import (
	"iter"
	"slices"

	"troth/api"
)

const (
	mostBytes  = 8 // of a number
	lengthSize = 2 // bytes of a part's length
	base       = 65521
	digits     = "0123456789abcdef"
)

// Put writes v as n bytes, the greatest first.
func Put(v uint64, n int) ([]byte, api.Errno) {
	if n < 1 || n > mostBytes {
		return nil, api.ErrArg
	}
	if v>>(8*n) != 0 { // a shift by 64 leaves 0: eight bytes hold every number
		return nil, api.ErrWide
	}
	b := make([]byte, n)
	for i := n - 1; i >= 0; i-- {
		b[i] = byte(v)
		v >>= 8
	}
	return b, api.OK
}

// Get reads the number that b says, the greatest byte first.
func Get(b []byte) (uint64, api.Errno) {
	if len(b) < 1 || len(b) > mostBytes {
		return 0, api.ErrArg
	}
	var v uint64
	for _, x := range b {
		v = v<<8 | uint64(x)
	}
	return v, api.OK
}

// Join writes parts one behind the other, each behind its length.
func Join(parts [][]byte) ([]byte, api.Errno) {
	if len(parts) > api.MaxParts || slices.ContainsFunc(parts, longerThan(api.MaxPart)) {
		return nil, api.ErrLong
	}
	size := 0
	for _, p := range parts {
		size += lengthSize + len(p)
	}
	b := make([]byte, 0, size)
	for _, p := range parts {
		b = append(b, byte(len(p)>>8), byte(len(p)))
		b = append(b, p...)
	}
	return b, api.OK
}

func longerThan(most int) func([]byte) bool {
	return func(p []byte) bool { return len(p) > most }
}

// Split reads the parts that Join wrote.
func Split(b []byte) ([][]byte, api.Fault) {
	var parts [][]byte
	var fault api.Fault
scan:
	for p := range pieces(b) {
		switch {
		case !p.whole:
			fault = api.Fault{At: p.at, Code: api.ErrShort}
			break scan
		case len(parts) == api.MaxParts: // told ahead of whatever fault stands further behind
			fault = api.Fault{Code: api.ErrLong}
			break scan
		}
		parts = append(parts, fresh(p.data))
	}
	if fault != (api.Fault{}) {
		return nil, fault
	}
	return parts, api.Fault{}
}

// A piece is a part where it stands. Its data is still a piece of what was handed in.
type piece struct {
	at    int // of its length's first byte
	data  []byte
	whole bool
}

// pieces yields b's parts; the last piece is not whole where b is cut within one.
func pieces(b []byte) iter.Seq[piece] {
	return func(yield func(piece) bool) {
		for at := 0; at < len(b); {
			p := pieceAt(b, at)
			if !yield(p) || !p.whole {
				return
			}
			at += lengthSize + len(p.data)
		}
	}
}

func pieceAt(b []byte, at int) piece {
	rest := b[at:]
	if len(rest) < lengthSize {
		return piece{at: at}
	}
	n := int(rest[0])<<8 | int(rest[1])
	rest = rest[lengthSize:]
	if len(rest) < n {
		return piece{at: at}
	}
	return piece{at: at, data: rest[:n], whole: true}
}

func fresh(b []byte) []byte {
	c := make([]byte, len(b))
	copy(c, b)
	return c
}

// Sum is the sum of b's bytes.
func Sum(b []byte) uint32 {
	a, c := uint32(1), uint32(0)
	for _, x := range b {
		a = (a + uint32(x)) % base
		c = (c + a) % base
	}
	return c<<16 | a
}

// Both is the sum of two texts one behind the other, of their sums and the second one's length.
func Both(x, y uint32, n int) uint32 {
	a, c := halves(x)
	d, e := halves(y)
	less := (a + base - 1) % base // a less one, without going below 0
	turns := uint64(max(n, 0)) % base
	low := (less + d) % base
	high := (c + e + turns*less) % base
	return uint32(high<<16 | low)
}

// halves has room for products of halves, so that none of Both's is cut.
func halves(sum uint32) (low, high uint64) {
	return uint64(sum & 0xffff), uint64(sum >> 16)
}

// Hex is b in digits, two for each byte.
func Hex(b []byte) string {
	s := make([]byte, 0, 2*len(b))
	for _, x := range b {
		s = append(s, digits[x>>4], digits[x&15])
	}
	return string(s)
}

// Unhex reads the bytes that Hex wrote.
func Unhex(s string) ([]byte, api.Fault) {
	for i := range len(s) { // by bytes: a place is a byte's, not a rune's
		if !isDigit(s[i]) {
			return nil, api.Fault{At: i, Code: api.ErrForm}
		}
	}
	if len(s)%2 != 0 {
		return nil, api.Fault{At: len(s), Code: api.ErrForm}
	}
	b := make([]byte, len(s)/2)
	for i := range b {
		b[i] = digitValue(s[2*i])<<4 | digitValue(s[2*i+1])
	}
	return b, api.Fault{}
}

func isDigit(c byte) bool {
	return '0' <= c && c <= '9' || 'a' <= c && c <= 'f'
}

func digitValue(digit byte) byte {
	if digit <= '9' {
		return digit - '0'
	}
	return digit - 'a' + 10
}
