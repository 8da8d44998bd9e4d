package unit_test

import (
	"bytes"
	"math"
	"slices"
	"testing"

	"troth/api"
	"troth/luw"
	"troth/tape"
	"troth/unit"
	"troth/wal"
)

var noUnit = []int{math.MinInt, -1, api.MaxUnits, 255, 256, math.MaxInt}

// P19.1, New

func TestNewIsAUnitWithoutAnythingElse(t *testing.T) {
	for me := range api.MaxUnits {
		x := rig{T: t, tape: newTape(t, 2048)}
		var e api.Errno
		x.u, e = unit.New(me, x.tape, 7)
		ok(t, "New", e)
		x.logged(0, first)
		same(t, "forced", x.tape.Forced(), x.tape.Len())
		x.has("")
		x.events("")
		x.image("next 1")
		for p := range api.MaxUnits {
			x.knows(p, "0")
		}
	}
}

func TestNewLeavesNothingOnTheTape(t *testing.T) {
	x := rig{T: t, tape: written(t, 2048, rec(1, four(3), four(9)), rec(9, 1, 3, eight(4), 0, eight(1)))}
	ok(t, "Append", x.tape.Append([]byte{1, 2, 3}))
	var e api.Errno
	x.u, e = unit.New(0, x.tape, 7)
	ok(t, "New", e)
	x.logged(0, first)
	x.image("next 1")
}

func TestNewOfWhatMayNotBe(t *testing.T) {
	good := newTape(t, 2048)
	ok(t, "Append", good.Append([]byte{1, 2, 3}))
	try := func(me int, x *tape.Tape, name uint32) {
		t.Helper()
		if u, e := unit.New(me, x, name); u != nil || e != api.ErrArg {
			t.Errorf("New(%d, %d bytes, %d): %v", me, x.Room(), name, e)
		}
		if name == 0 {
			return
		}
		if u, e := unit.Open(me, x); u != nil || e != api.ErrArg {
			t.Errorf("Open(%d, %d bytes): %v", me, x.Room(), e)
		}
	}
	for _, me := range noUnit {
		try(me, good, 7)
	}
	try(0, good, 0)
	try(0, nil, 7)
	try(0, &tape.Tape{}, 7)
	try(0, newTape(t, 1), 7)
	try(0, newTape(t, 2047), 7)
	if !bytes.Equal(good.Bytes(), []byte{1, 2, 3}) || good.Forced() != 0 {
		t.Errorf("the tape is changed: %v", good.Bytes())
	}
}

// P19.1, Open

// Works that stand in hand-made logs. The unit is 0.
var (
	workA = api.Luw{Unit: 0, Life: 7, Seq: 65537}
	workB = api.Luw{Unit: 1, Life: 101, Seq: 2}
	workC = api.Luw{Unit: 1, Life: 101, Seq: 3}
	key3  = api.Change{Kind: 1, Key: 3, Val: 9}
	key4  = api.Change{Kind: 1, Key: 4, Val: 8}
	in5   = api.Change{Kind: 3, Val: 5}
	take5 = api.Change{Kind: 4, Key: 1, Val: 5}
)

func TestOpenSaysWhatTheRecordsSay(t *testing.T) {
	for _, c := range []struct {
		what                 string
		list                 []api.Rec
		works, image, events string
		packed               []api.Rec // behind the record 1
	}{
		{"nothing", nil, "", "next 1", "", []api.Rec{noImage}},
		{"an image", []api.Rec{rec(9, 2, 0, eight(4), 15, eight(math.MaxUint64), 2, eight(7), eight(8), eight(1<<62))},
			"", "0=4 15=18446744073709551615 7 8 next 4611686018427387904", "",
			[]api.Rec{rec(9, 2, 0, eight(4), 15, eight(math.MaxUint64), 2, eight(7), eight(8), eight(1<<62))}},
		{"the last image", []api.Rec{rec(9, 1, 0, eight(4), 0, eight(3)), rec(9, 0, 0, eight(0))},
			"", "next 1", "", []api.Rec{noImage}},
		{"pending", []api.Rec{rec(3, workA, 0, 2, 1, 2)},
			"a7.65537 -1 backed=backed 1 2", "next 1", "backout a7.65537",
			[]api.Rec{noImage, rec(5, workA, 5, 5, 0, 2, 1, 2)}},
		{"doubt", []api.Rec{rec(4, workB, 2, 1, 3, key3, in5)},
			"b101.2 1 doubt 3", "next 1", "",
			[]api.Rec{noImage, rec(4, workB, 2, 1, 3, key3, in5)}},
		{"doubt behind pending", []api.Rec{rec(3, workB, 2, 2, 3, 4), rec(8, workB), rec(4, workB, 2, 1, 3, key3)},
			"b101.2 1 doubt 3!", "next 1", "",
			[]api.Rec{noImage, rec(4, workB, 2, 1, 3, key3), rec(8, workB)}},
		{"committed here", []api.Rec{rec(5, workA, 4, 4, 0, 1, 2, key3, in5)},
			"a7.65537 -1 committed=committed 2", "3=9 5 next 2", "",
			[]api.Rec{rec(9, 1, 3, eight(9), 1, eight(5), eight(2)), rec(5, workA, 4, 4, 0, 1, 2)}},
		{"committed behind pending", []api.Rec{rec(3, workA, 0, 2, 1, 2), rec(5, workA, 4, 4, 0, 1, 2, key3)},
			"a7.65537 -1 committed=committed 2", "3=9 next 1", "",
			[]api.Rec{rec(9, 1, 3, eight(9), 0, eight(1)), rec(5, workA, 4, 4, 0, 1, 2)}},
		{"committed behind doubt", []api.Rec{rec(4, workB, 2, 0, key3), rec(5, workB, 4, 4, 2, 0, key4)},
			"b101.2 1 committed=committed", "3=9 next 1", "",
			[]api.Rec{rec(9, 1, 3, eight(9), 0, eight(1)), rec(5, workB, 4, 4, 2, 0)}},
		{"committed again", []api.Rec{rec(5, workA, 4, 4, 0, 1, 2, in5), rec(5, workA, 4, 4, 0, 0, in5)},
			"a7.65537 -1 committed=committed", "5 next 2", "",
			[]api.Rec{rec(9, 0, 1, eight(5), eight(2)), rec(5, workA, 4, 4, 0, 0)}},
		{"backed, whatever changes stand there", []api.Rec{rec(5, workB, 5, 5, 0, 1, 2, key3)},
			"b101.2 -1 backed=backed 2", "next 1", "",
			[]api.Rec{noImage, rec(5, workB, 5, 5, 0, 1, 2)}},
		{"backed behind doubt", []api.Rec{rec(4, workB, 2, 0, key3), rec(5, workB, 5, 5, 2, 0)},
			"b101.2 1 backed=backed", "next 1", "", []api.Rec{noImage, rec(5, workB, 5, 5, 2, 0)}},
		{"all kids that may be", []api.Rec{rec(5, workA, 5, 5, 0, 5, 5, 3, 1, 2, 4)},
			"a7.65537 -1 backed=backed 5 3 1 2 4", "next 1", "", []api.Rec{noImage, rec(5, workA, 5, 5, 0, 5, 5, 3, 1, 2, 4)}},
		{"lost", []api.Rec{rec(5, workB, 20, 4, 2, 1, 3, key3), rec(5, workC, 21, 5, 0, 0)},
			"b101.2 1 committed=committed 3, b101.3 -1 backed=backed", "3=9 next 1", "",
			[]api.Rec{rec(9, 1, 3, eight(9), 0, eight(1)), rec(5, workB, 20, 4, 2, 1, 3), rec(5, workC, 21, 5, 0, 0)}},
		{"done otherwise", []api.Rec{rec(5, workB, 5, 4, 2, 0, key3), rec(8, workB), rec(5, workC, 4, 5, 2, 0, key4)},
			"b101.2 1 committed=backed!, b101.3 1 backed=committed", "3=9 next 1", "",
			[]api.Rec{rec(9, 1, 3, eight(9), 0, eight(1)), rec(5, workB, 5, 4, 2, 0), rec(8, workB), rec(5, workC, 4, 5, 2, 0)}},
		{"gone", []api.Rec{rec(4, workB, 2, 0, key3), rec(6, workB), rec(6, workC)},
			"", "next 1", "", []api.Rec{noImage}},
		{"by hand", []api.Rec{rec(4, workB, 2, 1, 3, key3), rec(7, workB, 1), rec(4, workC, 3, 0, key4), rec(8, workC), rec(7, workC, 0)},
			"b101.2 1 heurcommit 3, b101.3 2 heurbackout!", "3=9 next 1", "",
			[]api.Rec{rec(9, 1, 3, eight(9), 0, eight(1)), rec(4, workB, 2, 1, 3), rec(7, workB, 1), rec(4, workC, 3, 0), rec(7, workC, 0), rec(8, workC)}},
		{"by hand, and then told", []api.Rec{rec(4, workB, 2, 0, key3), rec(7, workB, 1), rec(5, workB, 4, 4, 2, 0, key4)},
			"b101.2 1 committed=committed", "3=9 next 1", "",
			[]api.Rec{rec(9, 1, 3, eight(9), 0, eight(1)), rec(5, workB, 4, 4, 2, 0)}},
		{"doubt again, behind a commit by hand", []api.Rec{rec(4, workB, 2, 0, key3), rec(7, workB, 1), rec(4, workB, 2, 0)},
			"b101.2 1 doubt", "3=9 next 1", "", []api.Rec{rec(9, 1, 3, eight(9), 0, eight(1)), rec(4, workB, 2, 0)}},
		{"in the order of the log", []api.Rec{rec(5, workC, 4, 4, 0, 0, in5), rec(5, workB, 4, 4, 0, 0, take5, api.Change{Kind: 3, Val: 6})},
			"b101.2 -1 committed=committed, b101.3 -1 committed=committed", "6 next 3", "",
			[]api.Rec{rec(9, 0, 1, eight(6), eight(3)), rec(5, workB, 4, 4, 0, 0), rec(5, workC, 4, 4, 0, 0)}},
		{"rising by name", []api.Rec{rec(3, workC, 2, 0), rec(3, workB, 2, 0), rec(3, workA, 0, 0)},
			"a7.65537 -1 backed=backed, b101.2 1 backed=backed, b101.3 1 backed=backed", "next 1",
			"backout a7.65537, backout b101.2, backout b101.3",
			[]api.Rec{noImage, rec(5, workA, 5, 5, 0, 0), rec(5, workB, 5, 5, 2, 0), rec(5, workC, 5, 5, 2, 0)}},
	} {
		t.Run(c.what, func(t *testing.T) {
			x := opened(t, c.list...)
			x.has(c.works)
			x.image(c.image)
			x.events(c.events)
			x.logged(0, append([]api.Rec{rec(1, four(7), four(2))}, c.packed...)...)
			same(t, "forced", x.tape.Forced(), x.tape.Len())
			x.again(0) // P19.6: once more, the same
			x.has(c.works)
			x.image(c.image)
			x.events("")
			x.logged(0, append([]api.Rec{rec(1, four(7), four(3))}, c.packed...)...)
		})
	}
}

func TestOpenRemembersPeers(t *testing.T) {
	x := opened(t, rec(2, 5, four(105)), rec(2, 1, four(1)), rec(2, 3, four(103)), rec(2, 1, four(math.MaxUint32)), rec(2, 3, four(0)))
	for p, want := range []string{"0", "4294967295", "0", "0", "0", "105"} {
		x.knows(p, want)
	}
	x.logged(0, rec(1, four(7), four(2)), rec(2, 1, four(math.MaxUint32)), rec(2, 5, four(105)), noImage)
}

func TestOpenCountsLives(t *testing.T) {
	x := opened(t, rec(1, four(8), four(math.MaxUint32)))
	x.logged(0, rec(1, four(8), four(0)), noImage)
	same(t, "name", x.begin(), api.Luw{Unit: 0, Life: 8, Seq: 1})
	x.again(0)
	same(t, "name", x.begin(), api.Luw{Unit: 0, Life: 8, Seq: 65537})
}

func TestOpenCutsOffWhatIsNoRecord(t *testing.T) {
	x := written(t, 2048, first)
	ok(t, "Append", x.Append([]byte{0, 9, 6, 1, 2}))
	_, e := unit.Open(0, x)
	ok(t, "Open", e)
	list, size := wal.Read(x.Bytes())
	if size != x.Len() || recsText(list) != recsText([]api.Rec{rec(1, four(7), four(2)), noImage}) {
		t.Errorf("the log has %v", list)
	}
}

// What is in doubt is in the resources again, with its locks.
func TestOpenRestoresWhatIsInDoubt(t *testing.T) {
	x := opened(t, rec(9, 1, 3, eight(1), 1, eight(5), eight(2)), rec(4, workB, 2, 0, key3, take5))
	x.image("3=1 5 next 2")
	l := x.begin()
	for _, c := range []api.Change{{Kind: 0, Key: 3}, key3, {Kind: 4}} {
		if _, e := x.u.Change(l, c); e != api.ErrLocked {
			t.Errorf("Change(%v): %v", c, e)
		}
	}
	x.byHand(workB, true)
	x.image("3=9 next 2")
}

func TestOpenOfWhatIsNoLog(t *testing.T) {
	change := func(kind, key int, val uint64) api.Change { return api.Change{Kind: kind, Key: key, Val: val} }
	var many []any
	for i := range 49 {
		many = append(many, change(1, i, 0))
	}
	rec5 := func(outcome, did int) api.Rec { return rec(5, workB, outcome, did, 2, 0) }
	for _, list := range [][]api.Rec{
		{rec(0), rec(10)}, {rec(10)}, {rec(255)}, {rec(200, four(7), four(1))},
		{rec(1)}, {rec(1, four(0), four(1))}, {rec(1, four(7), 0, 0, 1)}, {rec(1, four(7), four(1), 0)},
		{rec(2)}, {rec(2, 0, four(1))}, {rec(2, 6, four(1))}, {rec(2, 255, four(1))}, {rec(2, 1, 0, 0, 1)}, {rec(2, 1, four(1), 1)},
		{rec(3)}, {rec(3, workB)}, {rec(3, workB, 2)}, {rec(3, workB, 1, 0)}, {rec(3, workB, 7, 0)}, {rec(3, workB, 255, 0)},
		{rec(3, workB, 2, 1)}, {rec(3, workB, 2, 1, 0)}, {rec(3, workB, 2, 1, 6)}, {rec(3, workB, 2, 0, 1)},
		{rec(3, workB, 2, 6, 1, 2, 3, 4, 5, 1)}, {rec(3, workB, 2, 255)}, {rec(3, workB, 2, 1, 3, key3)},
		{rec(3, 6, four(1), four(1), 2, 0)}, {rec(3, 1, four(1), four(0), 2, 0)}, {rec(3, 1, four(1), 1, 2)},
		{rec(4)}, {rec(4, workB, 2, 0, 1)}, {rec(4, workB, 2, 0, key3, 1)}, {rec(4, workB, 2, 0, change(0, 1, 1))},
		{rec(4, workB, 2, 0, change(5, 1, 1))}, {rec(4, workB, 2, 0, rec(0, many...).Body)}, {rec(4, workB, 2, 0, 1, eight(1<<62+1), eight(0))},
		{rec5(0, 4)}, {rec5(3, 4)}, {rec5(6, 4)}, {rec5(16, 4)}, {rec5(19, 4)}, {rec5(22, 4)}, {rec5(36, 4)}, {rec5(255, 4)},
		{rec5(4, 0)}, {rec5(4, 3)}, {rec5(4, 6)}, {rec5(4, 20)}, {rec5(5, 255)},
		{rec(5)}, {rec(5, workB, 4, 4)}, {rec(5, workB, 4, 4, 1, 0)}, {rec(5, workB, 4, 4, 2, 1, 0)}, {rec(5, workB, 4, 4, 2, 0, 1)},
		{rec(6)}, {rec(6, workB, 0)}, {rec(6, 6, four(1), four(1))}, {rec(6, 1, four(1), four(0))},
		{rec(7)}, {rec(7, workB, 1)}, {rec(4, workB, 2, 0), rec(7, workB, 2)}, {rec(4, workB, 2, 0), rec(7, workB)},
		{rec(4, workB, 2, 0), rec(7, workB, 1, 0)}, {rec(4, workB, 2, 0), rec(7, workC, 1)}, {rec(4, workB, 2, 0), rec(7, workB, 1), rec(7, workB, 1)},
		{rec(3, workB, 2, 0), rec(7, workB, 1)}, {rec5(5, 5), rec(7, workB, 1)}, {rec(4, workB, 2, 0), rec(6, workB), rec(7, workB, 0)},
		{rec(8)}, {rec(8, workB)}, {rec(4, workB, 2, 0), rec(8, workC)}, {rec(4, workB, 2, 0), rec(8, workB, 0)}, {rec(4, workB, 2, 0), rec(6, workB), rec(8, workB)},
		{rec(9)}, {rec(9, 0, 0)}, {rec(9, 0, 0, eight(1), 0)}, {rec(9, 1, 0, eight(1))}, {rec(9, 1, 16, eight(1), 0, eight(1))},
		{rec(9, 2, 1, eight(1), 1, eight(1), 0, eight(1))}, {rec(9, 2, 1, eight(1), 0, eight(1), 0, eight(1))},
		{rec(9, 0, 1, eight(5), eight(0))}, {rec(9, 0, 1, eight(5), eight(1))}, {rec(9, 0, 2, eight(5), eight(3))},
		{rec(9, 0, 0, eight(1<<62+1))}, {rec(9, 0, 0, eight(1<<63))}, {rec(9, 0, 0, eight(math.MaxUint64))},
		{rec(9, 0, 17, bytes.Repeat([]byte{1}, 17*8), eight(18))}, {rec(9, 255)}, {rec(9, 0, 255)},
		{rec(5, workB, 4, 4, 0, 0, take5)}, {rec(5, workB, 4, 4, 0, 0, change(1, 16, 1))}, {rec(5, workB, 4, 4, 0, 0, in5, key3)},
		{rec(4, workB, 2, 0, take5), rec(7, workB, 1)}, {rec(4, workB, 2, 0, change(2, 3, 1)), rec(5, workB, 4, 4, 2, 0)},
		{rec(4, workB, 2, 0, take5)}, {rec(4, workB, 2, 0, key3), rec(4, workC, 2, 0, key3)}, {rec(4, workB, 2, 0, change(1, 16, 1))},
	} {
		if list[0].Kind == 0 {
			list = list[1:]
		}
		isNoLog(t, 0, append([]api.Rec{first}, list...))
	}
	isNoLog(t, 0, nil)
	isNoLog(t, 0, []api.Rec{noImage, first})
	isNoLog(t, 0, []api.Rec{rec(6, workB)})
	isNoLog(t, 5, []api.Rec{first, rec(2, 5, four(1))})
}

// isNoLog holds Open to an error, and to have left the tape as it was, even what is no record behind the others.
func isNoLog(t *testing.T, me int, list []api.Rec) {
	t.Helper()
	x := written(t, 2048, list...)
	ok(t, "Append", x.Append([]byte{0, 0, 6}))
	before, forced := x.Bytes(), x.Forced()
	if u, e := unit.Open(me, x); u != nil || e != api.ErrForm {
		t.Errorf("Open of %s: %v", recsText(list), e)
	}
	if !bytes.Equal(x.Bytes(), before) || x.Forced() != forced {
		t.Errorf("the tape is changed by %s", recsText(list))
	}
}

// A body that has one byte less or more is none, nor is one of another unit's making that names this one.
func TestOpenOfBodiesThatAreCut(t *testing.T) {
	for _, r := range []api.Rec{
		rec(1, four(7), four(1)), rec(2, 1, four(3)), rec(3, workB, 2, 2, 3, 4), rec(4, workB, 2, 1, 3, key3), rec(5, workB, 4, 4, 2, 1, 3, key3),
		rec(6, workB), rec(9, 1, 3, eight(9), 1, eight(5), eight(2)),
	} {
		if _, e := unit.Open(0, written(t, 2048, first, r)); e != api.OK {
			t.Errorf("Open of %v: %v", r, e)
		}
		for n := range len(r.Body) {
			if whole := r.Kind == 4 && n == 12 || r.Kind == 5 && n == 14; !whole { // without changes
				isNoLog(t, 0, []api.Rec{first, {Kind: r.Kind, Body: r.Body[:n]}})
			}
		}
		isNoLog(t, 0, []api.Rec{first, {Kind: r.Kind, Body: append(slices.Clone(r.Body), 1)}})
	}
}

func TestOpenOfMoreThanTheMostWorks(t *testing.T) {
	list := []api.Rec{first}
	for seq := range api.MaxWorks + 1 {
		list = append(list, rec(5, api.Luw{Unit: 1, Life: 1, Seq: uint32(seq + 1)}, 5, 5, 2, 0))
	}
	isNoLog(t, 0, list)
	isNoLog(t, 0, append(slices.Clone(list), rec(6, workA)))
	_, e := unit.Open(0, written(t, 2048, list[:len(list)-1]...))
	ok(t, "Open of the most", e)
	x := rig{T: t, tape: written(t, 2048, append(list, rec(6, api.Luw{Unit: 1, Life: 1, Seq: 1}))...)}
	x.u, e = unit.Open(0, x.tape)
	ok(t, "Open of more that are gone again", e)
	same(t, "works", len(x.u.Works()), api.MaxWorks)
}

// The names of works that may be are those of layer 5.
func TestOpenOfEveryUnitsWork(t *testing.T) {
	for n := range api.MaxUnits {
		l := api.Luw{Unit: n, Life: math.MaxUint32, Seq: math.MaxUint32}
		x := opened(t, rec(4, l, 2, 0))
		x.has(luw.Print(l) + " 1 doubt")
	}
}
