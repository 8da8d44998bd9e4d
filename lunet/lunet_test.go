package lunet_test

import (
	"math"
	"math/rand"
	"strconv"
	"testing"

	"troth/api"
	"troth/lunet"
	"troth/luw"
	"troth/unit"
)

var noUnit = []int{math.MinInt, -1, api.MaxUnits, 256, math.MaxInt}

// P20.1

func TestNew(t *testing.T) {
	for n := 1; n <= api.MaxUnits; n++ {
		for _, room := range []int{2048, 4096, api.MaxTape} {
			x := newRig(t, n, room)
			for a := range n {
				u := x.w.Unit(a)
				if u == nil {
					t.Fatalf("the unit %d is down", a)
				}
				same(t, "unit", x.w.Unit(a), u)
				for b := range n {
					if x.w.Linked(a, b) || len(x.w.Row(a, b)) > 0 {
						t.Errorf("%d and %d are linked", a, b)
					}
				}
				name, e := u.Begin()
				if e != api.OK || name != (api.Luw{Unit: a, Life: uint32(a + 1), Seq: 65537}) {
					t.Errorf("Begin: %v, %v", name, e)
				}
				same(t, "tape", len(x.w.Tape(a)), 15)
			}
			if len(x.w.Luws()) > 0 || len(x.w.Log()) > 0 {
				t.Errorf("a new world has something")
			}
		}
	}
}

func TestNewOfWhatMayNotBe(t *testing.T) {
	for _, n := range []int{math.MinInt, -1, 0, api.MaxUnits + 1, math.MaxInt} {
		if w, e := lunet.New(n, 4096); w != nil || e != api.ErrArg {
			t.Errorf("New(%d, 4096): %v", n, e)
		}
	}
	for _, room := range []int{math.MinInt, -1, 0, 2047, api.MaxTape + 1, math.MaxInt} {
		if w, e := lunet.New(2, room); w != nil || e != api.ErrArg {
			t.Errorf("New(2, %d): %v", room, e)
		}
	}
}

// The room is that of the tapes: a log without room for one more work that asks for votes refuses it.
func TestNewHasTapesOfThatRoom(t *testing.T) {
	for room, want := range map[int]int{2048: 6, 3072: api.MaxWorks - 1} {
		x := newRig(t, 2, room)
		x.open(0, 1)
		asked := 0
		for w := range api.MaxWorks - 1 {
			x.do(lunet.Begin, 0)
			x.do(lunet.Attach, 0, w, 1)
			x.do(lunet.Serve, 0, 1)
			x.put(1, w, w, 9)
			x.do(lunet.Sync, 0, w)
			if x.row(0, 1) != "prepare" {
				break
			}
			x.do(lunet.Serve, 0, 1)
			asked++
		}
		same(t, "works that asked", asked, want)
	}
}

func TestWhatIsNone(t *testing.T) {
	x := newRig(t, 2, 2048)
	x.open(0, 1)
	x.do(lunet.Tick, 0)
	for _, w := range []*lunet.World{x.w, nil, {}} {
		for _, a := range append(noUnit, 2) {
			for _, b := range append(noUnit, 0, 2) {
				if w.Unit(a) != nil || w.Linked(a, b) || w.Linked(b, a) || len(w.Row(a, b)) > 0 || len(w.Row(b, a)) > 0 || len(w.Tape(a)) > 0 {
					t.Errorf("something of %d, %d", a, b)
				}
			}
		}
	}
	for _, w := range []*lunet.World{nil, {}} {
		if len(w.Luws()) > 0 || len(w.Log()) > 0 || w.Unit(0) != nil || len(w.Tape(0)) > 0 {
			t.Errorf("no world has something")
		}
		for kind := range 17 {
			if v, e := w.Do(lunet.Step{Kind: kind, B: 1}); v != 0 || e != api.ErrNil {
				t.Errorf("Do of no world: %d, %v", v, e)
			}
		}
	}
}

// Rule 5: what is handed out is new memory.
func TestWhatIsHandedOutIsNew(t *testing.T) {
	x := newRig(t, 2, 2048)
	x.open(0, 1)
	x.do(lunet.Begin, 0)
	x.do(lunet.Attach, 0, 0, 1)
	x.do(lunet.Begin, 0)
	x.do(lunet.Backout, 0, 1)
	before := x.all()
	x.w.Row(0, 1)[0][0] = 77
	x.w.Row(0, 1)[0] = nil
	x.w.Luws()[0].Seq = 77
	x.w.Log()[0].Unit = 77
	x.w.Tape(0)[0] = 77
	same(t, "all", x.all(), before)
}

// P20.2

func TestTheExample(t *testing.T) {
	x := newRig(t, 2, 4096)
	x.do(lunet.Link, 0, 1)
	x.do(lunet.Serve, 0, 1)
	x.do(lunet.Serve, 1, 0)
	x.do(lunet.Begin, 0)
	x.do(lunet.Attach, 0, 0, 1)
	same(t, "messages", len(x.w.Row(0, 1)), 1)
}

// synced is the world of the examples of the whole: a work that was begun at the unit 0, changed at the unit 1, and asked for.
func synced(t *testing.T) rig {
	t.Helper()
	x := newRig(t, 2, 4096)
	x.open(0, 1)
	x.do(lunet.Begin, 0)
	x.do(lunet.Attach, 0, 0, 1)
	x.do(lunet.Serve, 0, 1)
	x.put(1, 0, 3, 9)
	x.do(lunet.Sync, 0, 0)
	return x
}

func TestTheExamplesOfTheWhole(t *testing.T) {
	x := synced(t)
	x.has(0, "a1.65537/pending/1")
	x.has(1, "a1.65537/active/")
	x.do(lunet.Serve, 0, 1)
	x.has(1, "a1.65537/doubt/")
	x.do(lunet.Serve, 1, 0)
	x.logs("0/1/a1.65537")
	x.do(lunet.Serve, 0, 1)
	x.image(1, "3=9")
	x.do(lunet.Serve, 1, 0)
	x.do(lunet.Serve, 0, 1)
	x.has(0, "")
	x.has(1, "")
	x.logs("0/1/a1.65537 1/1/a1.65537 0/5/a1.65537")
	x.refused(api.ErrNone, step(lunet.Serve, 0, 1))
}

func TestTheExamplesOfACrash(t *testing.T) {
	for _, cold := range []bool{false, true} {
		x := synced(t)
		x.do(lunet.Serve, 0, 1)
		x.do(lunet.Crash, 1, 0)
		x.logs("0/2/a1.65537")
		if cold {
			x.do(lunet.Cold, 1)
			x.do(lunet.Link, 0, 1)
			x.do(lunet.Serve, 1, 0)
			x.logs("0/2/a1.65537 0/6/")
			x.knows(0, 1, "2 up bad")
			continue
		}
		x.do(lunet.Restart, 1)
		x.has(1, "a1.65537/doubt/")
		x.byHand(1, 0, true)
		x.image(1, "3=9")
	}
}

// What is wrong ahead of all else is told, of each kind of step.
func TestWhatCannotBe(t *testing.T) {
	x := newRig(t, 3, 4096)
	x.open(0, 1)
	x.do(lunet.Begin, 0)
	x.do(lunet.Crash, 2, 0)
	for _, kind := range []int{math.MinInt, -1, 0, 15, math.MaxInt} {
		x.refused(api.ErrArg, lunet.Step{Kind: kind, A: 0, B: 1})
	}
	for _, a := range append(noUnit, 3) {
		for kind := lunet.Link; kind <= lunet.Cold; kind++ {
			x.refused(api.ErrArg, lunet.Step{Kind: kind, A: a, B: 1, W: 99})
		}
		for _, kind := range []int{lunet.Link, lunet.Cut, lunet.Serve} {
			x.refused(api.ErrArg, step(kind, 0, a))
			x.refused(api.ErrArg, step(kind, 2, a))
		}
	}
	for a := range 3 {
		for _, kind := range []int{lunet.Link, lunet.Cut, lunet.Serve} {
			x.refused(api.ErrArg, step(kind, a, a))
		}
	}
	for kind := lunet.Begin; kind <= lunet.Crash; kind++ {
		x.refused(api.ErrDown, lunet.Step{Kind: kind, A: 2, W: 99})
	}
	for kind := lunet.Attach; kind <= lunet.ByHand; kind++ {
		for _, w := range []int{math.MinInt, -1, 1, math.MaxInt} {
			x.refused(api.ErrNone, lunet.Step{Kind: kind, A: 0, W: w, B: 99})
		}
	}
	x.refused(api.ErrDown, step(lunet.Link, 0, 2))
	x.refused(api.ErrDown, step(lunet.Link, 2, 0))
	x.refused(api.ErrState, step(lunet.Link, 0, 1))
	x.refused(api.ErrState, step(lunet.Link, 1, 0))
	x.refused(api.ErrState, step(lunet.Cut, 0, 2))
	x.refused(api.ErrNone, step(lunet.Serve, 0, 2))
	x.refused(api.ErrNone, step(lunet.Serve, 0, 1))
	x.refused(api.ErrState, step(lunet.Restart, 0))
	x.refused(api.ErrState, step(lunet.Cold, 0))
}

// The errors of the units' calls come through.
func TestTheUnitsErrors(t *testing.T) {
	x := newRig(t, 2, 4096)
	x.do(lunet.Begin, 0)
	x.refused(api.ErrNone, step(lunet.Attach, 1, 0, 0))
	x.refused(api.ErrArg, step(lunet.Attach, 0, 0, 0))
	x.refused(api.ErrArg, step(lunet.Attach, 0, 0, 6))
	x.refused(api.ErrNames, step(lunet.Attach, 0, 0, 1))
	x.refused(api.ErrNames, step(lunet.Attach, 0, 0, 5))
	x.refused(api.ErrNone, step(lunet.Sync, 1, 0))
	x.refused(api.ErrNone, step(lunet.Backout, 1, 0))
	x.refused(api.ErrNone, step(lunet.ByHand, 1, 0))
	x.refused(api.ErrState, step(lunet.ByHand, 0, 0))
	x.refused(api.ErrArg, step(lunet.Reset, 0, 0))
	x.refused(api.ErrArg, step(lunet.Reset, 0, 6))
	x.refused(api.ErrState, step(lunet.Reset, 0, 1))
	x.change(0, 0, api.Change{Kind: 9}, 0, api.ErrArg)
	x.change(1, 0, api.Change{Kind: 9}, 0, api.ErrNone)
	for range api.MaxWorks - 1 {
		x.do(lunet.Begin, 0)
	}
	x.refused(api.ErrFull, step(lunet.Begin, 0))
	same(t, "works", len(x.w.Luws()), api.MaxWorks)
}

func TestTheValueOfAChange(t *testing.T) {
	x := newRig(t, 1, 4096)
	x.do(lunet.Begin, 0)
	x.put(0, 0, 3, 9)
	x.change(0, 0, api.Change{Kind: 0, Key: 3}, 9, api.OK)
	x.change(0, 0, api.Change{Kind: 3, Val: 5}, 0, api.OK)
	x.do(lunet.Sync, 0, 0)
	x.do(lunet.Begin, 0)
	x.change(0, 1, api.Change{Kind: 4}, 5, api.OK)
	x.change(0, 1, api.Change{Kind: 4}, 0, api.ErrEmpty)
	x.change(0, 1, api.Change{Kind: 2, Key: 3}, 0, api.OK)
	x.change(0, 1, api.Change{Kind: 0, Key: 3}, 0, api.OK)
}

func TestLink(t *testing.T) {
	x := newRig(t, 3, 4096)
	x.do(lunet.Link, 1, 0)
	for _, p := range [][2]int{{0, 1}, {1, 0}} {
		x.onItsWay(p[0], p[1], "names")
		x.knows(p[0], p[1], "0 up")
		if !x.w.Linked(p[0], p[1]) || x.w.Linked(p[0], 2) || x.w.Linked(2, p[0]) {
			t.Errorf("links")
		}
	}
	x.do(lunet.Serve, 0, 1)
	x.knows(1, 0, "1 up open")
	x.knows(0, 1, "0 up")
	x.onItsWay(0, 1, "")
	x.onItsWay(1, 0, "names")
}

func TestCut(t *testing.T) {
	x := newRig(t, 3, 4096)
	x.open(0, 1)
	x.open(0, 2)
	x.do(lunet.Begin, 0)
	x.do(lunet.Attach, 0, 0, 1)
	x.do(lunet.Attach, 0, 0, 2)
	x.do(lunet.Cut, 0, 1)
	if x.w.Linked(0, 1) || x.w.Linked(1, 0) || !x.w.Linked(0, 2) {
		t.Errorf("links")
	}
	x.onItsWay(0, 1, "")
	x.onItsWay(0, 2, "attach backout")
	x.knows(0, 1, "2")
	x.knows(1, 0, "1")
	x.logs("0/2/a1.65537")
	x.refused(api.ErrState, step(lunet.Cut, 0, 1))
	x.refused(api.ErrNone, step(lunet.Serve, 0, 1))
	x.do(lunet.Link, 0, 1)
	x.onItsWay(0, 1, "names")
}

// The events of one step stand in the log rising by unit.
func TestCutBacksOutAtBothEnds(t *testing.T) {
	for _, s := range []lunet.Step{step(lunet.Cut, 0, 1), step(lunet.Cut, 1, 0)} {
		x := newRig(t, 2, 4096)
		x.open(0, 1)
		x.do(lunet.Begin, 0)
		x.do(lunet.Attach, 0, 0, 1)
		x.do(lunet.Serve, 0, 1)
		x.ok(s)
		x.logs("0/2/a1.65537 1/2/a1.65537")
		x.has(0, "")
		x.has(1, "")
	}
}

// The sender is told ahead of the other one, and what it wants to send then is put at once. Here either end of the link has a message for the unit 2 then that does not fit, so that the unit 2 loses its links in that order.
func TestCutTellsTheSenderFirst(t *testing.T) {
	for sender, want := range []string{"a1.65537 b2.65537 ", "b2.65537 a1.65537 "} {
		x := newRig(t, 3, 4096)
		for a := range 3 {
			for b := range a {
				x.open(a, b)
			}
		}
		for a := range 2 {
			x.do(lunet.Begin, a)
			x.do(lunet.Attach, a, a, 2)
			x.do(lunet.Serve, a, 2)
			x.do(lunet.Attach, a, a, 1-a)
		}
		for a := range 2 {
			x.fillRow(a, 2, api.MaxMail)
		}
		log := len(x.w.Log())
		x.do(lunet.Cut, sender, 1-sender)
		lost := ""
		for _, e := range x.w.Log()[log:] {
			if e.Unit == 2 && e.E.Kind == unit.EvBackout {
				lost += luw.Print(e.E.Luw) + " "
			}
		}
		same(t, "what is lost", lost, want)
		for a := range 3 {
			for b := range a {
				same(t, "linked", x.w.Linked(a, b), false)
			}
			x.has(a, "")
		}
	}
}

// A message is off its row even where the unit refuses it. Here the unit 0 is in doubt, with the kid 1, which began cold; that both have been reset is forgotten of the work in a crash, so that the unit 0 finds a stranger where the unit 1 finds none.
func TestServeOfWhatIsRefused(t *testing.T) {
	x := newRig(t, 3, 4096)
	x.open(2, 0)
	x.open(0, 1)
	x.do(lunet.Begin, 2)
	x.do(lunet.Attach, 2, 0, 0)
	x.do(lunet.Serve, 2, 0)
	x.do(lunet.Attach, 0, 0, 1)
	x.do(lunet.Serve, 0, 1)
	x.put(1, 0, 3, 9)
	x.do(lunet.Sync, 2, 0)
	for _, p := range [][2]int{{2, 0}, {0, 1}, {1, 0}} {
		x.do(lunet.Serve, p[0], p[1])
	}
	x.has(0, "c3.65537/doubt/1")
	x.do(lunet.Crash, 1, 0)
	x.do(lunet.Cold, 1)
	x.open(0, 1)
	x.do(lunet.Reset, 0, 1)
	x.do(lunet.Reset, 1, 0)
	x.has(0, "c3.65537/doubt/")
	x.do(lunet.Crash, 0, 0)
	x.do(lunet.Restart, 0)
	x.has(0, "c3.65537/doubt/1")
	x.open(0, 1)
	x.knows(0, 1, "0 up bad")
	x.knows(1, 0, "1 up open")
	x.do(lunet.Begin, 1)
	x.do(lunet.Attach, 1, 1, 0)
	x.onItsWay(1, 0, "attach")
	if v, e := x.w.Do(step(lunet.Serve, 1, 0)); v != 0 || e != api.ErrNames {
		t.Errorf("Serve: %d, %v", v, e)
	}
	x.onItsWay(1, 0, "")
	x.has(0, "c3.65537/doubt/1")
}

// fillRow puts messages behind a row, by works that are begun, attached and, if there is room to tell that, backed out, till it has so many.
func (x rig) fillRow(a, b, many int) {
	x.Helper()
	for len(x.w.Row(a, b)) < many {
		x.do(lunet.Begin, a)
		w := len(x.w.Luws()) - 1
		x.do(lunet.Attach, a, w, b)
		if len(x.w.Row(a, b)) < many {
			x.do(lunet.Backout, a, w)
		}
	}
}

func TestARowThatIsFullCutsItsLink(t *testing.T) {
	x := newRig(t, 3, 4096)
	for _, p := range [][2]int{{0, 1}, {0, 2}, {1, 2}} {
		x.open(p[0], p[1])
	}
	x.do(lunet.Begin, 0)
	x.do(lunet.Attach, 0, 0, 2) // it hangs on the unit 2 alone
	x.do(lunet.Begin, 0)
	x.do(lunet.Attach, 0, 1, 1)
	x.do(lunet.Serve, 0, 1)
	x.do(lunet.Attach, 1, 1, 2)
	x.do(lunet.Tick, 1)
	x.do(lunet.Begin, 1)
	x.do(lunet.Attach, 1, 2, 0)
	x.fillRow(0, 1, api.MaxMail)
	same(t, "messages", len(x.w.Row(0, 1)), api.MaxMail)
	x.onItsWay(1, 0, "attach")
	x.onItsWay(0, 2, "attach")
	log := len(x.w.Log())
	x.do(lunet.Begin, 0)
	x.do(lunet.Attach, 0, len(x.w.Luws())-1, 1) // one more
	if x.w.Linked(0, 1) || x.w.Linked(1, 0) || !x.w.Linked(0, 2) || !x.w.Linked(1, 2) {
		t.Errorf("links")
	}
	x.onItsWay(0, 1, "")
	x.onItsWay(1, 0, "")
	x.onItsWay(0, 2, "attach")
	x.onItsWay(1, 2, "attach backout")
	x.knows(0, 1, "2")
	x.knows(1, 0, "1")
	x.has(0, "a1.65537/active/2")
	x.has(1, "")
	happened := ""
	for _, e := range x.w.Log()[log:] {
		happened += strconv.Itoa(e.Unit) + "/" + strconv.Itoa(e.E.Kind) + " "
	}
	same(t, "what happened", happened, "0/2 0/2 1/2 1/2 ") // two works that hang on the link, at either end
}

// A cut may make a row full that it adds to: that link is cut, too, and what was to be sent on is left out.
func TestACutThatCutsMore(t *testing.T) {
	x := newRig(t, 3, 4096)
	x.open(0, 1)
	x.open(0, 2)
	x.do(lunet.Begin, 0)
	x.do(lunet.Attach, 0, 0, 2)
	x.do(lunet.Attach, 0, 0, 1)
	x.do(lunet.Begin, 0)
	x.do(lunet.Attach, 0, 1, 1)
	x.do(lunet.Attach, 0, 1, 2)
	x.fillRow(0, 1, api.MaxMail)
	x.do(lunet.Cut, 2, 0) // two works are backed out, and the row has no room to tell the unit 1 so
	for _, p := range [][2]int{{0, 1}, {0, 2}} {
		if x.w.Linked(p[0], p[1]) || x.w.Linked(p[1], p[0]) {
			t.Errorf("%v are linked", p)
		}
		x.onItsWay(p[0], p[1], "")
		x.onItsWay(p[1], p[0], "")
	}
	x.has(0, "")
	x.has(1, "")
}

func TestCrash(t *testing.T) {
	x := newRig(t, 4, 4096)
	x.open(0, 1)
	x.open(0, 2)
	x.open(1, 2)
	x.do(lunet.Begin, 1)
	x.do(lunet.Attach, 1, 0, 0)
	x.do(lunet.Attach, 1, 0, 2)
	x.do(lunet.Begin, 0)
	x.do(lunet.Crash, 0, 0)
	if x.w.Unit(0) != nil {
		t.Errorf("it is up")
	}
	for b := 1; b < 4; b++ {
		if x.w.Linked(0, b) || x.w.Linked(b, 0) || len(x.w.Row(0, b)) > 0 || len(x.w.Row(b, 0)) > 0 {
			t.Errorf("0 and %d are linked", b)
		}
	}
	x.knows(1, 0, "1")
	x.knows(2, 0, "1")
	x.onItsWay(1, 2, "attach backout")
	x.logs("1/2/b2.65537")
	x.do(lunet.Restart, 0)
	x.has(0, "")
	x.knows(0, 1, "2")
	x.do(lunet.Begin, 0)
	same(t, "name", x.w.Luws()[2], api.Luw{Unit: 0, Life: 1, Seq: 2*65536 + 1})
}

// What was not forced may be lost, but for the front that the step says.
func TestCrashKeepsAFront(t *testing.T) {
	for n, kept := range map[int]int{math.MinInt: 0, -1: 0, 0: 0, 1: 1, 15: 15, 16: 16, 17: 16, math.MaxInt: 16} {
		x := newRig(t, 1, 4096)
		x.do(lunet.Begin, 0)
		x.put(0, 0, 3, 9)
		x.do(lunet.Sync, 0, 0)
		whole := len(x.w.Tape(0))
		x.do(lunet.Crash, 0, n)
		same(t, "bytes", len(x.w.Tape(0)), whole-16+kept) // the end of a work, which is not forced
		x.do(lunet.Restart, 0)
		x.image(0, "3=9")
		if kept == 16 {
			x.has(0, "")
		} else {
			x.has(0, "a1.65537/committed/")
		}
		x.do(lunet.Tick, 0)
		x.has(0, "")
	}
}

func TestCold(t *testing.T) {
	x := newRig(t, 2, 4096)
	x.do(lunet.Begin, 1)
	x.put(1, 0, 3, 9)
	x.do(lunet.Sync, 1, 0)
	for i, name := range []uint32{3, 4} {
		x.do(lunet.Crash, 1, 99)
		x.do(lunet.Cold, 1)
		x.image(1, "")
		same(t, "tape", len(x.w.Tape(1)), 15)
		x.do(lunet.Begin, 1)
		same(t, "name", x.w.Luws()[i+1], api.Luw{Unit: 1, Life: name, Seq: 65537})
		x.do(lunet.Backout, 1, i+1)
		log := x.w.Log()
		same(t, "name in the log", log[len(log)-1].Name, name)
	}
	x.do(lunet.Crash, 0, 0)
	x.do(lunet.Cold, 0)
	x.do(lunet.Begin, 0)
	same(t, "Life", x.w.Luws()[3].Life, 5)
	same(t, "events", x.log(), "1/1/b2.65537 1/5/b2.65537 1/2/b3.65537 1/2/b4.65537")
}

// A unit that comes up again goes by its name, and what happens in that is in the log.
func TestRestart(t *testing.T) {
	x := synced(t)
	x.do(lunet.Crash, 0, 0)
	x.do(lunet.Restart, 0)
	x.logs("1/2/a1.65537 0/2/a1.65537")
	same(t, "event", x.w.Log()[1], lunet.Event{Unit: 0, Name: 1, E: unit.Event{Kind: unit.EvBackout, Luw: x.w.Luws()[0]}})
	x.has(0, "a1.65537/backed/1")
	x.has(1, "")
}

func TestEventsHaveTheirUnits(t *testing.T) {
	x := newRig(t, 3, 4096)
	x.open(1, 2)
	x.do(lunet.Begin, 2)
	x.do(lunet.Attach, 2, 0, 1)
	x.do(lunet.Serve, 2, 1)
	x.do(lunet.Cut, 2, 1)
	l := x.w.Luws()[0]
	want := []lunet.Event{{1, 2, unit.Event{Kind: unit.EvBackout, Luw: l}}, {2, 3, unit.Event{Kind: unit.EvBackout, Luw: l}}}
	got := x.w.Log()
	if len(got) != 2 || got[0] != want[0] || got[1] != want[1] {
		t.Errorf("log %v; want %v", got, want)
	}
}

func TestReset(t *testing.T) {
	x := synced(t)
	x.do(lunet.Serve, 0, 1)
	x.do(lunet.Crash, 0, 0)
	x.do(lunet.Cold, 0)
	x.open(0, 1)
	x.knows(1, 0, "1 up bad")
	x.knows(0, 1, "0 up bad")
	x.do(lunet.Reset, 1, 0)
	x.knows(1, 0, "0 up")
	x.has(1, "")
	x.logs("1/6/ 0/6/ 1/3/a1.65537 1/5/a1.65537")
}

// P1

func TestNoStepPanics(t *testing.T) {
	r := rand.New(rand.NewSource(201))
	number := func() int {
		if r.Intn(10) == 0 {
			return int(r.Uint64())
		}
		return r.Intn(8) - 1
	}
	for range 100 {
		x := newRig(t, 1+r.Intn(4), 2048)
		for range 400 {
			x.w.Do(lunet.Step{
				Kind: number() + r.Intn(9), A: number(), B: number(), W: number(), N: number(), Commit: r.Intn(2) == 0,
				C: api.Change{Kind: number(), Key: number(), Val: r.Uint64()},
			})
			a, b := number(), number()
			x.w.Unit(a)
			x.w.Linked(a, b)
			x.w.Row(a, b)
			x.w.Tape(a)
		}
	}
}
