package gds_test

import (
	"bytes"
	"math"
	"math/rand"
	"slices"
	"testing"

	"troth/api"
	"troth/gds"
)

var none api.Fault

// segment is the bytes of one segment as the words say: a length, 32768 more if more is to come, and what stands behind it.
func segment(more bool, parts ...[]byte) []byte {
	body := slices.Concat(parts...)
	n := 2 + len(body)
	if more {
		n += 32768
	}
	return append([]byte{byte(n / 256), byte(n % 256)}, body...)
}

func id(n int) []byte { return []byte{byte(n / 256), byte(n % 256)} }

// cutInto is a variable's segments, where its data is cut into pieces of these sizes.
func cutInto(v api.Var, sizes ...int) []byte {
	var b []byte
	data := v.Data
	for i, n := range sizes {
		head := id(v.ID)
		if i > 0 {
			head = nil
		}
		b = append(b, segment(i+1 < len(sizes), head, data[:n])...)
		data = data[n:]
	}
	return b
}

// evenly is the sizes of n bytes' pieces of seg bytes, the last one of what is left.
func evenly(n, seg int) []int {
	var sizes []int
	for n > seg {
		sizes, n = append(sizes, seg), n-seg
	}
	return append(sizes, n)
}

func same(a, b api.Var) bool { return a.ID == b.ID && bytes.Equal(a.Data, b.Data) }

func randomVar(r *rand.Rand, most int) api.Var {
	v := api.Var{ID: []int{0, 1, 255, 256, 32768, 65535, r.Intn(65536)}[r.Intn(7)], Data: make([]byte, r.Intn(most+1))}
	r.Read(v.Data)
	return v
}

// write writes v in segments of seg bytes, or of more, if these would be too many.
func write(t *testing.T, v api.Var, seg int) []byte {
	t.Helper()
	b, e := gds.Write(v, max(seg, (len(v.Data)+63)/64, 1))
	if e != api.OK {
		t.Fatalf("Write of %d bytes, ID %d, seg %d: %v", len(v.Data), v.ID, seg, e)
	}
	return b
}

func refusedNext(t *testing.T, what string, b []byte, want api.Errno) {
	t.Helper()
	if v, n, e := gds.Next(b); e != want || v.ID != 0 || len(v.Data) != 0 || n != 0 {
		t.Errorf("%s: Next = %v, %d, %v; want %v", what, v, n, e, want)
	}
}

// P4.1

func TestWriteOfTheExamples(t *testing.T) {
	for _, c := range []struct {
		v    api.Var
		seg  int
		want []byte
	}{
		{api.Var{ID: 5, Data: []byte{1, 2, 3}}, 2, []byte{128, 6, 0, 5, 1, 2, 0, 3, 3}},
		{api.Var{ID: 5}, 2, []byte{0, 4, 0, 5}},
		{api.Var{ID: 5, Data: []byte{}}, 1, []byte{0, 4, 0, 5}},
		{api.Var{ID: 5, Data: []byte{1, 2, 3}}, 3, []byte{0, 7, 0, 5, 1, 2, 3}},
		{api.Var{ID: 5, Data: []byte{1, 2, 3}}, 2048, []byte{0, 7, 0, 5, 1, 2, 3}},
		{api.Var{ID: 5, Data: []byte{1, 2, 3}}, 1, []byte{128, 5, 0, 5, 1, 128, 3, 2, 0, 3, 3}},
		{api.Var{ID: 0, Data: []byte{1, 2, 3, 4}}, 2, []byte{128, 6, 0, 0, 1, 2, 0, 4, 3, 4}}, // no empty piece behind the last one
		{api.Var{ID: 65535, Data: []byte{9}}, 1, []byte{0, 5, 255, 255, 9}},
		{api.Var{ID: 256}, 1, []byte{0, 4, 1, 0}},
	} {
		if b, e := gds.Write(c.v, c.seg); e != api.OK || !bytes.Equal(b, c.want) {
			t.Errorf("Write(%v, %d) = %v, %v; want %v", c.v, c.seg, b, e, c.want)
		}
	}
}

func TestWriteGivesAVariablesSegments(t *testing.T) {
	r := rand.New(rand.NewSource(1))
	for _, n := range []int{0, 1, 2, 3, 31, 63, 64, 65, 127, 128, 252, 253, 254, 255, 256, 1000, 2047, 2048} {
		v := api.Var{ID: r.Intn(65536), Data: make([]byte, n)}
		r.Read(v.Data)
		for _, seg := range []int{1, 2, 3, 31, 32, 33, 64, 251, 252, 253, 254, 255, 1023, 1024, 2047, 2048} {
			if n > 64*seg {
				continue
			}
			if b, e := gds.Write(v, seg); e != api.OK || !bytes.Equal(b, cutInto(v, evenly(n, seg)...)) {
				t.Errorf("Write of %d bytes in segments of %d: %v, %v", n, seg, b, e)
			}
		}
	}
}

func TestWriteRefuses(t *testing.T) {
	for _, c := range []struct {
		id, n, seg int
		want       api.Errno
	}{
		{5, 3, 0, api.ErrArg},
		{5, 3, -1, api.ErrArg},
		{5, 3, 2049, api.ErrArg},
		{5, 3, math.MinInt, api.ErrArg},
		{5, 3, math.MaxInt, api.ErrArg},
		{-1, 3, 0, api.ErrArg}, // ahead of ErrGds
		{5, 2049, 2049, api.ErrArg},
		{5, 0, 0, api.ErrArg},
		{-1, 3, 1, api.ErrGds},
		{65536, 3, 1, api.ErrGds},
		{65541, 3, 1, api.ErrGds}, // 5, if it were cut to two bytes
		{math.MinInt, 0, 1, api.ErrGds},
		{math.MaxInt, 0, 2048, api.ErrGds},
		{5, 2049, 2048, api.ErrGds},
		{5, 70000, 2048, api.ErrGds},
		{-1, 2048, 1, api.ErrGds}, // ahead of ErrFull
		{5, 2049, 1, api.ErrGds},
		{5, 65, 1, api.ErrFull},
		{5, 129, 2, api.ErrFull},
		{5, 2048, 1, api.ErrFull},
		{5, 2048, 31, api.ErrFull},
		{5, 1985, 31, api.ErrFull},
		{0, 2017, 31, api.ErrFull},
		{65535, 2048, 16, api.ErrFull},
	} {
		if b, e := gds.Write(api.Var{ID: c.id, Data: make([]byte, c.n)}, c.seg); e != c.want || len(b) != 0 {
			t.Errorf("Write of ID %d, %d bytes, seg %d: %v, %v; want %v", c.id, c.n, c.seg, b, e, c.want)
		}
	}
	for _, c := range [][2]int{{64, 1}, {63, 1}, {128, 2}, {1984, 31}, {2048, 32}} { // 64 segments are not too many
		if _, e := gds.Write(api.Var{ID: 5, Data: make([]byte, c[0])}, c[1]); e != api.OK {
			t.Errorf("Write of %d bytes, seg %d: %v", c[0], c[1], e)
		}
	}
}

// P4.2: Next

func TestNextGivesTheVariableAtTheFront(t *testing.T) {
	abc := api.Var{ID: 513, Data: []byte("abc")}
	full := api.Var{ID: 7, Data: bytes.Repeat([]byte{8}, 2048)}
	for _, c := range []struct {
		b    []byte
		want api.Var
	}{
		{[]byte{0, 4, 0, 5}, api.Var{ID: 5}},
		{[]byte{0, 4, 255, 255}, api.Var{ID: 65535}},
		{cutInto(abc, 3), abc},
		{cutInto(abc, 1, 1, 1), abc},
		{cutInto(abc, 0, 3), abc},          // pieces may be empty
		{cutInto(abc, 1, 0, 0, 2, 0), abc}, // wherever they stand
		{cutInto(abc, 2, 1), abc},
		{cutInto(api.Var{ID: 1}, make([]int, 64)...), api.Var{ID: 1}},
		{cutInto(full, 2048), full},
		{cutInto(full, 2047, 1), full},
		{cutInto(full, 0, 2048), full},
		{cutInto(full, 2048, 0), full},
		{cutInto(full, evenly(2048, 32)...), full}, // 64 segments
	} {
		for _, tail := range [][]byte{nil, {0}, {0, 0}, {255, 255, 255}, c.b, make([]byte, 100)} {
			if v, n, e := gds.Next(slices.Concat(c.b, tail)); e != api.OK || !same(v, c.want) || n != len(c.b) {
				t.Errorf("Next of %v and %v: %v, %d, %v", c.b, tail, v, n, e)
			}
		}
	}
}

func TestNextRefusesWhatIsTooShort(t *testing.T) {
	for name, b := range map[string][]byte{
		"nothing":                             nil,
		"half a length":                       {0},
		"half a length that goes on":          {128},
		"no ID":                               {0, 4},
		"half an ID":                          {0, 4, 0},
		"less than its length":                {0, 7, 0, 5, 1, 2},
		"the greatest length":                 {127, 255, 0, 5, 1, 2},
		"no second segment":                   {128, 5, 0, 5, 1},
		"half a length of the second segment": {128, 5, 0, 5, 1, 0},
		"less than the second one's length":   {128, 5, 0, 5, 1, 0, 4, 1},
		"too much data that is not there":     segment(false, id(5), make([]byte, 3000))[:2500],  // ahead of ErrGds
		"a 64th segment that is not there":    cutInto(api.Var{}, make([]int, 65)...)[:4+63*2-1], // ahead of ErrFull
		"a 65th that is none, behind 63":      cutInto(api.Var{}, make([]int, 65)...)[:4+62*2],
	} {
		refusedNext(t, name, b, api.ErrShort)
	}
}

func TestNextRefusesALengthThatIsTooSmall(t *testing.T) {
	for name, b := range map[string][]byte{
		"length 0":                            {0, 0},
		"length 0 with more behind":           {0, 0, 0, 5, 1, 2},
		"length 1":                            {0, 1, 0, 5},
		"length 2, first":                     {0, 2, 0, 5},
		"length 3, first":                     {0, 3, 0}, // and it is all there
		"length 3, first, not there":          {0, 3},    // ahead of ErrShort
		"length 0, goes on":                   {128, 0, 0, 5},
		"length 3, goes on":                   {128, 3, 0, 5},
		"length 0 of the second one":          {128, 5, 0, 5, 1, 0, 0},
		"length 1 of the second one":          {128, 5, 0, 5, 1, 0, 1, 7},
		"length 1 of the second one, goes on": {128, 5, 0, 5, 1, 128, 1, 7},
	} {
		refusedNext(t, name, b, api.ErrGds)
	}
	if v, n, e := gds.Next([]byte{128, 5, 0, 5, 1, 0, 2}); e != api.OK || !same(v, api.Var{ID: 5, Data: []byte{1}}) || n != 7 {
		t.Errorf("length 2 of the second one: %v, %d, %v", v, n, e)
	}
}

func TestNextRefusesTooMuchData(t *testing.T) {
	long := api.Var{ID: 5, Data: make([]byte, 40000)}
	for name, b := range map[string][]byte{
		"one segment":                         cutInto(long, 2049),
		"the greatest segment":                cutInto(long, 32767-4),
		"one of two, ahead of what is behind": cutInto(long, 2049, 1)[:2053],
		"two segments":                        cutInto(long, 2048, 1),
		"the second one of two":               cutInto(long, 0, 2049),
		"many":                                cutInto(long, evenly(2049, 33)...),
		"in the 64th, ahead of ErrFull":       cutInto(long, append(evenly(63*32, 32), 33, 0)...),
	} {
		refusedNext(t, name, b, api.ErrGds)
	}
}

func TestNextRefusesTooManySegments(t *testing.T) {
	v := api.Var{ID: 5, Data: make([]byte, 100)}
	sizes := slices.Repeat([]int{1}, 65)
	whole := cutInto(v, sizes...)
	refusedNext(t, "65 segments", whole, api.ErrFull)
	refusedNext(t, "200 segments", cutInto(v, make([]int, 200)...), api.ErrFull)
	refusedNext(t, "64, the last of which goes on, and no more", whole[:len(whole)-3], api.ErrFull)
	refusedNext(t, "64, and a length of 0 behind", append(slices.Clone(whole[:len(whole)-3]), 0, 0), api.ErrFull)
	refusedNext(t, "64, the last of which goes on, and is not there", whole[:len(whole)-4], api.ErrShort) // asked behind its bytes
	if w, n, e := gds.Next(cutInto(v, sizes[:64]...)); e != api.OK || len(w.Data) != 64 || n != 2+64*3 {
		t.Errorf("64 segments: %v, %d, %v", w, n, e)
	}
}

func TestNextLooksAtNothingBehindTheLength(t *testing.T) {
	whole := cutInto(api.Var{ID: 5, Data: []byte("abcd")}, 2, 2)
	for n := range len(whole) {
		refusedNext(t, "cut, with other bytes behind its length", whole[:n], api.ErrShort)
	}
}

// A plain reads variables by the words alone: where it stands, and what it has of the variable.
type plain struct {
	b        []byte
	at       int
	segments int
	body     []byte
}

// segment takes one segment, and says whether it was the last one, or what is wrong with it.
func (p *plain) segment() (bool, api.Errno) {
	rest := len(p.b) - p.at
	if rest < 2 {
		return false, api.ErrShort
	}
	first, second := int(p.b[p.at]), int(p.b[p.at+1])
	last, length := first < 128, first%128*256+second
	if length < 2 || p.segments == 0 && length < 4 {
		return false, api.ErrGds
	}
	if rest < length {
		return false, api.ErrShort
	}
	for i := 2; i < length; i++ {
		p.body = append(p.body, p.b[p.at+i])
	}
	p.at, p.segments = p.at+length, p.segments+1
	if len(p.body) > 2050 {
		return false, api.ErrGds
	}
	if !last && p.segments == 64 {
		return false, api.ErrFull
	}
	return last, api.OK
}

func plainNext(b []byte) (api.Var, int, api.Errno) {
	p := plain{b: b}
	for {
		switch last, e := p.segment(); {
		case e != api.OK:
			return api.Var{}, 0, e
		case last:
			return api.Var{ID: int(p.body[0])*256 + int(p.body[1]), Data: p.body[2:]}, p.at, api.OK
		}
	}
}

// noise is bytes in which lengths mostly are small, and mostly go on.
func noise(r *rand.Rand, n int) []byte {
	b := make([]byte, n)
	for i := range b {
		b[i] = []byte{0, 0, 128, 128, 2, 3, 4, 5, 8, 1}[r.Intn(10)]
	}
	return b
}

// randomSegments is a variable's bytes in so many segments, and one more.
func randomSegments(r *rand.Rand, many int) []byte {
	var sizes []int
	total := 0
	for range many + 1 {
		n := r.Intn([]int{1, 3, 9, 60}[r.Intn(4)])
		sizes, total = append(sizes, n), total+n
	}
	return cutInto(api.Var{ID: r.Intn(65536), Data: make([]byte, total)}, sizes...)
}

// turned is b with one byte turned, or with some left out, or as it was.
func turned(r *rand.Rand, b []byte) []byte {
	at := r.Intn(len(b))
	switch r.Intn(3) {
	case 0:
		b[at] = byte(r.Intn(256))
	case 1:
		b = slices.Delete(b, at, min(len(b), at+1+r.Intn(3)))
	}
	return b
}

func TestNextAsTheWordsSay(t *testing.T) {
	r := rand.New(rand.NewSource(2))
	told := map[api.Errno]int{}
	for i := range 30000 {
		var b []byte
		switch i % 3 {
		case 0:
			b = noise(r, r.Intn(200))
		case 1:
			b = turned(r, randomSegments(r, r.Intn(70)))
		case 2:
			b = randomSegments(r, 60+r.Intn(10))
		}
		want, m, f := plainNext(b)
		v, n, e := gds.Next(b)
		if e != f || !same(v, want) || n != m {
			t.Fatalf("Next(%v) = %v, %d, %v; want %v, %d, %v", b, v, n, e, want, m, f)
		}
		told[e]++
	}
	for _, e := range []api.Errno{api.OK, api.ErrShort, api.ErrGds, api.ErrFull} {
		if told[e] == 0 {
			t.Errorf("nothing was answered by %v", e)
		}
	}
}

// P4.2: Read

func TestReadGivesAllVariables(t *testing.T) {
	r := rand.New(rand.NewSource(3))
	if list, f := gds.Read(nil); f != none || len(list) != 0 {
		t.Errorf("Read of nothing: %v, %v", list, f)
	}
	for range 200 {
		list := make([]api.Var, r.Intn(6))
		var b []byte
		for i := range list {
			list[i] = randomVar(r, 100)
			b = append(b, write(t, list[i], 1+r.Intn(120))...)
		}
		if got, f := gds.Read(b); f != none || !slices.EqualFunc(got, list, same) {
			t.Fatalf("Read = %v, %v; want %v", got, f, list)
		}
	}
}

func TestReadTellsWhereItIsRefused(t *testing.T) {
	abc := cutInto(api.Var{ID: 5, Data: []byte("abc")}, 2, 1)
	empty := cutInto(api.Var{ID: 6}, 0)
	for _, front := range [][]byte{nil, abc, empty, slices.Concat(abc, empty, abc)} {
		for name, c := range map[string]struct {
			b    []byte
			want api.Errno
		}{
			"half a length":                {[]byte{0}, api.ErrShort},
			"a second segment's length":    {abc[:7], api.ErrShort},
			"a second segment's bytes":     {abc[:8], api.ErrShort},
			"a length of 0":                {slices.Concat([]byte{0, 0}, abc), api.ErrGds},
			"a second segment's length, 0": {slices.Concat(abc[:6], []byte{0, 0}, abc), api.ErrGds},
			"too much data":                {slices.Concat(segment(false, id(5), make([]byte, 2049)), abc), api.ErrGds},
			"too many segments":            {slices.Concat(cutInto(api.Var{}, make([]int, 65)...), abc), api.ErrFull},
		} {
			want := api.Fault{At: len(front), Code: c.want}
			if list, f := gds.Read(slices.Concat(front, c.b)); f != want || len(list) != 0 {
				t.Errorf("%s behind %d bytes: %v, %v; want %v", name, len(front), list, f, want)
			}
		}
	}
}

// P4.3

func TestWhatIsWrittenIsReadAsItWas(t *testing.T) {
	r := rand.New(rand.NewSource(4))
	for _, n := range []int{0, 1, 2, 3, 50, 64, 65, 1000, 2047, 2048} {
		v := randomVar(r, 0)
		v.Data = make([]byte, n)
		r.Read(v.Data)
		for seg := 1; seg <= 2048; seg++ {
			b := write(t, v, seg)
			if w, m, e := gds.Next(b); e != api.OK || !same(v, w) || m != len(b) {
				t.Fatalf("%d bytes, seg %d: %d, %d, %v", n, seg, len(w.Data), m, e)
			}
			if list, f := gds.Read(slices.Concat(b, b)); f != none || !slices.EqualFunc(list, []api.Var{v, v}, same) {
				t.Fatalf("%d bytes, seg %d, twice: %d, %v", n, seg, len(list), f)
			}
		}
	}
}

// P4.4

func TestCutAnywhereAVariableIsShort(t *testing.T) {
	r := rand.New(rand.NewSource(5))
	for range 60 {
		v := randomVar(r, 120)
		b := write(t, v, 1+r.Intn(40))
		for n := range len(b) {
			cut := slices.Clone(b[:n])
			refusedNext(t, "cut", cut, api.ErrShort)
			want := api.Fault{At: len(b), Code: api.ErrShort}
			if n == 0 {
				want = none // nothing is no variable that is cut
			}
			if _, f := gds.Read(slices.Concat(b, cut)); f != want {
				t.Fatalf("Read of a variable and one cut at %d: %v; want %v", n, f, want)
			}
		}
	}
	full := write(t, api.Var{ID: 65535, Data: make([]byte, 2048)}, 32)
	for n := range len(full) {
		refusedNext(t, "the greatest one, cut", full[:n], api.ErrShort)
	}
}

// P4.5

func TestWhatIsReadIsAVariableThatMayBe(t *testing.T) {
	r := rand.New(rand.NewSource(6))
	read := 0
	for i := range 20000 {
		b := noise(r, r.Intn(100))
		if i%2 == 0 {
			b = turned(r, randomSegments(r, r.Intn(20)))
		}
		v, n, e := gds.Next(b)
		if e != api.OK {
			continue
		}
		read++
		sum, data := 0, -2
		for last := false; !last; {
			last = b[sum] < 128
			length := (int(b[sum])*256 + int(b[sum+1])) % 32768
			sum, data = sum+length, data+length-2
		}
		if n != sum || len(v.Data) != data || v.ID < 0 || v.ID > 65535 || len(v.Data) > 2048 {
			t.Fatalf("Next(%v) = %v, %d; its lengths say %d", b, v, n, sum)
		}
		if w := write(t, v, 2048); len(w) != 4+len(v.Data) {
			t.Fatalf("what was read is written as %v", w)
		}
	}
	if read < 1000 {
		t.Errorf("only %d were read", read)
	}
}

// Rules 4 and 5: what is handed in is not changed and not kept, what is handed out is new.

func TestWhatIsHandedInIsNotKeptOrChanged(t *testing.T) {
	whole := []byte{1, 2, 3, 50, 51, 52, 53, 54}
	b, e := gds.Write(api.Var{ID: 5, Data: whole[:3]}, 2)
	if e != api.OK || !bytes.Equal(whole, []byte{1, 2, 3, 50, 51, 52, 53, 54}) {
		t.Errorf("Write: %v, %v", e, whole)
	}
	clear(whole)
	if !bytes.Equal(b, []byte{128, 6, 0, 5, 1, 2, 0, 3, 3}) {
		t.Errorf("Write's answer hangs on what was handed in: %v", b)
	}
	for _, text := range [][]byte{{128, 6, 0, 5, 1, 2, 0, 3, 3}, {0, 7, 0, 5, 1, 2, 3}} {
		before := slices.Clone(text)
		want := api.Var{ID: 5, Data: []byte{1, 2, 3}}
		v, _, _ := gds.Next(text)
		list, _ := gds.Read(text)
		if !bytes.Equal(text, before) {
			t.Errorf("what was handed in is %v", text)
		}
		clear(text)
		if !same(v, want) || len(list) != 1 || !same(list[0], want) {
			t.Errorf("an answer hangs on what was handed in: %v, %v", v, list)
		}
	}
}

func TestWhatIsHandedOutIsNew(t *testing.T) {
	v, w := api.Var{ID: 5, Data: []byte{1, 2, 3}}, api.Var{ID: 6, Data: []byte{4, 5, 6}}
	b, c := write(t, v, 2), write(t, v, 2)
	clear(b[:cap(b)])
	if !bytes.Equal(c, cutInto(v, 2, 1)) {
		t.Errorf("two answers of Write share: %v", c)
	}
	text := slices.Concat(c, write(t, w, 2), write(t, v, 1))
	list, _ := gds.Read(text)
	again, _ := gds.Read(text)
	first, _, _ := gds.Next(text)
	clear(list[0].Data[:cap(list[0].Data)])
	if !slices.EqualFunc(list[1:], []api.Var{w, v}, same) {
		t.Errorf("two variables of one answer share: %v", list)
	}
	clear(list)
	if !slices.EqualFunc(again, []api.Var{v, w, v}, same) || !same(first, v) {
		t.Errorf("two answers share: %v, %v", again, first)
	}
}

// P1: every call ends and none panics.

func TestNoCallPanics(t *testing.T) {
	r := rand.New(rand.NewSource(7))
	numbers := []int{math.MinInt, math.MinInt32, -1, 0, 1, 2, 31, 32, 2048, 2049, 65535, 65536, math.MaxInt32, math.MaxInt}
	for _, n := range numbers {
		for _, seg := range numbers {
			for _, size := range []int{0, 1, 64, 65, 2048, 2049} {
				if b, e := gds.Write(api.Var{ID: n, Data: make([]byte, size)}, seg); (e == api.OK) != (len(b) > 0) {
					t.Fatalf("Write of ID %d, %d bytes, seg %d: %v, %v", n, size, seg, b, e)
				}
			}
		}
	}
	for range 20000 {
		b := make([]byte, r.Intn(60))
		r.Read(b)
		list, f := gds.Read(b)
		if f.Code == api.OK && f.At != 0 || f.Code != api.OK && len(list) != 0 {
			t.Fatalf("Read(%v) = %v, %v", b, list, f)
		}
	}
	gds.Read(make([]byte, 1<<20))
	gds.Read(bytes.Repeat([]byte{0, 4}, 1<<19))
}
