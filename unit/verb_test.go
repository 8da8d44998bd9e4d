package unit_test

import (
	"math"
	"testing"

	"troth/api"
	"troth/luw"
	"troth/unit"
)

func TestTheExample(t *testing.T) {
	x := newRig(t, 4096)
	l := x.begin()
	same(t, "name", luw.Print(l), "a7.65537")
	x.put(l, 3, 9)
	x.sync("", l)
	x.events("commit a7.65537, end a7.65537")
	x.image("3=9 next 1")
	x.has("")
	x.logged(1, rec(5, l, 4, 4, 0, 0, key3), rec(6, l))
	same(t, "forced", x.tape.Len()-x.tape.Forced(), 16)
}

// P19.2

func TestUpAndDownOfWhoMayNotBe(t *testing.T) {
	x := newRig(t, 4096)
	for _, p := range append(noUnit, 0) {
		x.refused(api.ErrArg, func() ([]unit.Out, api.Errno) { return x.u.Up(p) })
		x.refused(api.ErrArg, func() ([]unit.Out, api.Errno) { return x.u.Down(p) })
		x.refused(api.ErrArg, func() ([]unit.Out, api.Errno) { return x.u.Reset(p) })
	}
	x.refused(api.ErrDown, func() ([]unit.Out, api.Errno) { return x.u.Down(1) })
	x.open(1)
	x.down("", 1)
	x.refused(api.ErrDown, func() ([]unit.Out, api.Errno) { return x.u.Down(1) })
}

func TestUpTellsTheNames(t *testing.T) {
	x := newRig(t, 4096)
	for _, want := range []api.Msg{{Kind: api.MsgNames, Mine: 7}, {Kind: api.MsgNames, Mine: 7, Your: 102}} {
		outs, e := x.u.Up(2)
		if e != api.OK || len(outs) != 1 || outs[0] != (unit.Out{To: 2, Msg: want}) {
			t.Errorf("Up: %v, %v", outs, e)
		}
		saved, _, _, _ := x.u.Peer(2)
		same(t, "saved", saved, want.Your)
		x.open(2)
		x.down("", 2)
		x.knows(2, "102")
	}
	x.open(2)
	if _, e := x.u.Up(2); e != api.OK {
		t.Error(e)
	}
	x.knows(2, "102 up")
	x.stranger("2:refuse", 2)
	x.knows(2, "102 up bad")
	if _, e := x.u.Up(2); e != api.OK {
		t.Error(e)
	}
	x.knows(2, "102 up")
	x.stranger("2:refuse", 2)
	x.down("", 2)
	x.knows(2, "102")
}

// Tick tells, reports and asks what could not be sent when it was due, and each but once.
func TestTick(t *testing.T) {
	for _, c := range []struct {
		state      int
		down, tick string // of the peers that went and came again
	}{
		{active, "", ""}, {pending, "", ""}, {doubt, "1:query", "1:query"}, {heurCommit, "1:query", "1:query"}, {heurBackout, "1:query", "1:query"},
		{committed, "2:commit 3:commit", ""}, {backed, "2:backout 3:backout", ""},
	} {
		x, l := inState(t, c.state)
		x.tick("") // all is told, and the vote is sent, which is as good as a query
		if c.state == active || c.state == pending {
			continue
		}
		for _, p := range []int{1, 2, 3} {
			x.down("", p)
		}
		x.tick("")
		x.open(1, 2, 3)
		x.tick(c.down)
		x.tick("")
		if c.tick == "" {
			x.on("2:done", 2, api.MsgForget, l)
			x.down("", 1)
			x.on("3:done", 3, api.MsgForget, l)
			x.tick("")
			x.open(1)
			x.tick("1:forget")
			x.tick("")
		}
	}
}

func TestTickIsRisingByName(t *testing.T) {
	x := opened(t, rec(2, 1, four(101)), rec(2, 2, four(102)), rec(5, workC, 4, 4, 2, 1, 2), rec(4, workB, 2, 1, 2), rec(3, workA, 0, 2, 2, 1))
	x.open(1, 2)
	x.tick("2:backout 1:backout 1:query 2:commit")
	x.tick("")
	x.down("", 2)
	x.open(2)
	x.tick("2:backout 2:commit")
	x.on("2:done 1:forget", 2, api.MsgForget, workC)
	x.on("2:done", 2, api.MsgForget, workA)
	x.down("", 1)
	x.open(1)
	x.tick("1:backout 1:query 1:forget")
	x.on("1:done", 1, api.MsgForget, workA)
	x.events("backout a7.65537, end a7.65537")
}

// A work that is finished, without a parent, comes to its end by a tick.
func TestTickEnds(t *testing.T) {
	x := opened(t, rec(3, workA, 0, 0))
	before := x.records()
	x.tick("")
	x.has("")
	x.events("backout a7.65537, end a7.65537")
	x.logged(before, rec(6, workA))
}

// P19.3

func TestBegin(t *testing.T) {
	x := newRig(t, 4096)
	before := x.all()
	for n := range api.MaxWorks {
		same(t, "name", x.begin(), api.Luw{Unit: 0, Life: 7, Seq: uint32(65537 + n)})
	}
	x.logged(1)
	for range 2 {
		if l, e := x.u.Begin(); l != (api.Luw{}) || e != api.ErrFull {
			t.Errorf("Begin of one more than the most: %v, %v", l, e)
		}
	}
	for n, w := range x.u.Works() {
		if w.Parent != -1 || w.State != active || w.Outcome != 0 || len(w.Kids) != 0 || w.Mixed {
			t.Errorf("work %d: %v", n, w)
		}
		outs, e := x.u.Backout(w.Luw)
		x.sends("", outs, e)
	}
	same(t, "all", x.all(), before)
	same(t, "name", x.begin(), api.Luw{Unit: 0, Life: 7, Seq: 65537 + api.MaxWorks})
}

func TestBeginPassesNamesOver(t *testing.T) {
	x := newRig(t, 4096, 1)
	for _, seq := range []uint32{65537, 65539, 65540} {
		x.on("", 1, api.MsgAttach, api.Luw{Unit: 0, Life: 7, Seq: seq})
	}
	same(t, "Seq", x.begin().Seq, 65538)
	same(t, "Seq", x.begin().Seq, 65541)
	x.on("", 1, api.MsgBackout, api.Luw{Unit: 0, Life: 7, Seq: 65537})
	same(t, "Seq", x.begin().Seq, 65542)
}

func TestBeginOfTheLastNumbers(t *testing.T) {
	x := newRig(t, 4096, 1)
	last := api.Luw{Unit: 0, Life: 7, Seq: 65536 + 65535}
	for n := range 65534 {
		l := x.begin()
		same(t, "Seq", l.Seq, uint32(65537+n))
		outs, e := x.u.Backout(l)
		x.sends("", outs, e)
	}
	x.on("", 1, api.MsgAttach, last)
	if l, e := x.u.Begin(); l != (api.Luw{}) || e != api.ErrFull {
		t.Errorf("Begin: %v, %v", l, e)
	}
	x.on("", 1, api.MsgBackout, last)
	same(t, "name", x.begin(), last) // what was refused has passed nothing over
	if l, e := x.u.Begin(); l != (api.Luw{}) || e != api.ErrFull {
		t.Errorf("Begin behind the last number: %v, %v", l, e)
	}
}

func TestBeginOfTheLastLives(t *testing.T) {
	x := opened(t, rec(1, four(7), four(65534)))
	same(t, "Seq", x.begin().Seq, 65535*65536+1)
	x.again(0)
	if l, e := x.u.Begin(); l != (api.Luw{}) || e != api.ErrFull {
		t.Errorf("Begin: %v, %v", l, e)
	}
}

func TestVerbsOfNoWork(t *testing.T) {
	x := newRig(t, 4096, 1)
	x.begin()
	for _, l := range []api.Luw{{}, none, {Unit: 0, Life: 7, Seq: 65538}, {Unit: -1, Seq: 65537}} {
		x.refused(api.ErrNone, func() ([]unit.Out, api.Errno) { return x.u.Attach(l, 1) })
		x.refused(api.ErrArg, func() ([]unit.Out, api.Errno) { return x.u.Attach(l, 0) })
		x.refused(api.ErrNone, func() ([]unit.Out, api.Errno) { return x.u.Sync(l) })
		x.refused(api.ErrNone, func() ([]unit.Out, api.Errno) { return x.u.Backout(l) })
		x.refused(api.ErrNone, func() ([]unit.Out, api.Errno) { return x.u.ByHand(l, true) })
		for _, kind := range []int{0, 9} {
			if v, e := x.u.Change(l, api.Change{Kind: kind}); v != 0 || e != api.ErrNone {
				t.Errorf("Change: %d, %v", v, e)
			}
		}
	}
}

// P19.9, too: what has voted, or is decided, is changed by no verb but ByHand and Reset.
func TestVerbsOfOneThatIsNotActive(t *testing.T) {
	for _, state := range allStates[1:] {
		x, l := inState(t, state)
		x.open(4)
		x.refused(api.ErrState, func() ([]unit.Out, api.Errno) { return x.u.Attach(l, 4) })
		x.refused(api.ErrState, func() ([]unit.Out, api.Errno) { return x.u.Sync(l) })
		x.refused(api.ErrState, func() ([]unit.Out, api.Errno) { return x.u.Backout(l) })
		for kind := range 7 {
			before := x.all()
			if v, e := x.u.Change(l, api.Change{Kind: kind, Key: 99}); v != 0 || e != api.ErrState || x.all() != before {
				t.Errorf("Change of %d: %d, %v", kind, v, e)
			}
		}
	}
}

func TestAttach(t *testing.T) {
	x := newRig(t, 4096, 1, 2, 3, 4, 5)
	l := x.begin()
	for _, p := range append(noUnit, 0) {
		x.refused(api.ErrArg, func() ([]unit.Out, api.Errno) { return x.u.Attach(l, p) })
	}
	x.attach(l, 4, 2)
	x.has("a7.65537 -1 active 4 2")
	x.refused(api.ErrState, func() ([]unit.Out, api.Errno) { return x.u.Attach(l, 4) })
	x.attach(l, 1, 3, 5)
	x.has("a7.65537 -1 active 4 2 1 3 5")
	other := x.given(1, 2)
	x.refused(api.ErrState, func() ([]unit.Out, api.Errno) { return x.u.Attach(other, 1) }) // its parent
	x.attach(other, 2)
	x.stranger("3:refuse 4:backout 2:backout 1:backout 5:backout", 3)
	x.refused(api.ErrNames, func() ([]unit.Out, api.Errno) { return x.u.Attach(other, 3) })
	if _, e := x.u.Up(4); e != api.OK {
		t.Fatal(e)
	}
	x.refused(api.ErrNames, func() ([]unit.Out, api.Errno) { return x.u.Attach(other, 4) })
	x.stranger("1:refuse 2:backout", 1)
}

func TestAttachToOneThatIsNotOpen(t *testing.T) {
	x := newRig(t, 4096)
	l := x.begin()
	x.refused(api.ErrNames, func() ([]unit.Out, api.Errno) { return x.u.Attach(l, 1) })
	x.has("a7.65537 -1 active")
}

func TestChange(t *testing.T) {
	x := newRig(t, 4096, 1)
	l := x.begin()
	do := func(l api.Luw, c api.Change, want uint64, e api.Errno) {
		t.Helper()
		if got, err := x.u.Change(l, c); got != want || err != e {
			t.Errorf("Change(%v) = %d, %v; want %d, %v", c, got, err, want, e)
		}
	}
	do(l, api.Change{Kind: 0, Key: 3, Val: 5}, 0, api.OK)
	do(l, api.Change{Kind: 1, Key: 3, Val: math.MaxUint64}, 0, api.OK)
	do(l, api.Change{Kind: 0, Key: 3}, math.MaxUint64, api.OK)
	do(l, api.Change{Kind: 2, Key: 3, Val: 7}, 0, api.OK)
	do(l, api.Change{Kind: 0, Key: 3}, 0, api.OK)
	do(l, api.Change{Kind: 1, Key: 4, Val: 8}, 0, api.OK)
	do(l, api.Change{Kind: 4}, 0, api.ErrEmpty)
	do(l, api.Change{Kind: 3, Key: 99, Val: 5}, 0, api.OK)
	for _, kind := range []int{math.MinInt, -1, 5, 256, math.MaxInt} {
		do(l, api.Change{Kind: kind, Key: 99}, 0, api.ErrArg)
	}
	for kind := range 3 {
		do(l, api.Change{Kind: kind, Key: 16}, 0, api.ErrArg)
		do(l, api.Change{Kind: kind, Key: -1}, 0, api.ErrArg)
	}
	other := x.given(1, 2)
	for kind := range 3 {
		do(other, api.Change{Kind: kind, Key: 4}, 0, api.ErrLocked)
	}
	x.image("next 1")
	x.sync("", l)
	x.image("4=8 5 next 2")
	do(other, api.Change{Kind: 0, Key: 4}, 8, api.OK)
	do(other, api.Change{Kind: 4, Key: 99, Val: 99}, 5, api.OK)
	do(x.begin(), api.Change{Kind: 4}, 0, api.ErrLocked)
	for range api.MaxItems - 1 {
		do(other, api.Change{Kind: 3}, 0, api.OK)
	}
	do(other, api.Change{Kind: 3}, 0, api.ErrFull)
}

func TestSync(t *testing.T) {
	x := newRig(t, 4096, 1, 2)
	other := x.given(1, 2)
	x.refused(api.ErrState, func() ([]unit.Out, api.Errno) { return x.u.Sync(other) })
	l := x.begin()
	x.attach(l, 1, 2)
	x.put(l, 3, 9)
	before := x.records()
	x.sync("1:prepare 2:prepare", l)
	x.logged(before, rec(3, l, 0, 2, 1, 2))
	x.on("", 1, api.MsgYes, l)
	x.image("next 1")
	x.on("1:commit", 2, api.MsgReadOnly, l)
	x.has("a7.65537 -1 committed=committed 1, b101.2 1 active")
	x.events("commit a7.65537")
	x.image("3=9 next 1")
	x.logged(before+1, rec(5, l, 4, 4, 0, 1, 1, key3))
	same(t, "forced", x.tape.Forced(), x.tape.Len())
	x.on("1:done", 1, api.MsgForget, l)
	x.events("end a7.65537")
	x.has("b101.2 1 active")
	x.logged(before+2, rec(6, l))
	if x.tape.Forced() == x.tape.Len() {
		t.Errorf("an end is forced")
	}
}

func TestSyncOfOneThatChangedNothing(t *testing.T) {
	x := newRig(t, 4096, 1)
	l := x.begin()
	before := x.records()
	x.sync("", l)
	x.events("end a7.65537")
	x.logged(before)
	l = x.begin()
	x.attach(l, 1)
	x.sync("1:prepare", l)
	x.on("", 1, api.MsgReadOnly, l)
	x.events("end a7.65538")
	x.has("")
	x.logged(before, rec(3, l, 0, 1, 1), rec(6, l))
	same(t, "forced", x.tape.Forced(), x.tape.Len())
}

// All kids that matter are told the commit, as far as they can be sent, whether they forgot already or not.
func TestACommitIsToldToAllThatMatter(t *testing.T) {
	x := newRig(t, 4096, 1, 2, 3)
	l := x.begin()
	x.attach(l, 1, 2, 3)
	x.sync("1:prepare 2:prepare 3:prepare", l)
	x.on("", 1, api.MsgYes, l)
	x.on("", 2, api.MsgYes, l)
	x.stranger("1:refuse", 1)
	x.reset("", 1)
	x.down("", 2)
	x.events("names 1, cold a7.65537 1")
	x.has("a7.65537 -1 pending 2 3")
	x.down("", 1)
	x.open(1)
	before := x.records()
	x.on("1:commit 3:commit", 3, api.MsgYes, l)
	x.has("a7.65537 -1 committed=committed 2 3")
	x.logged(before, rec(5, l, 4, 4, 0, 2, 2, 3))
	x.on("1:done", 1, api.MsgForget, l)
	x.open(2)
	x.tick("2:commit")
}

func TestBackout(t *testing.T) {
	x, l := inState(t, active)
	before := x.records()
	outs, e := x.u.Backout(l)
	x.sends("2:backout 3:backout 1:no", outs, e)
	x.has("")
	x.events("backout b101.2")
	x.image("next 1")
	x.logged(before)
	own := x.begin()
	x.put(own, 3, 1)
	outs, e = x.u.Backout(own)
	x.sends("", outs, e)
	x.events("backout a7.65537")
	x.put(x.begin(), 3, 1)
}

// P19.4

func TestByHand(t *testing.T) {
	for _, c := range []struct {
		commit  bool
		says    int
		has, im string
	}{{true, 1, "b101.2 1 heurcommit 2 3", "3=9 next 1"}, {false, 0, "b101.2 1 heurbackout 2 3", "next 1"}} {
		x, l := inState(t, doubt)
		before := x.records()
		x.byHand(l, c.commit)
		x.has(c.has)
		x.events("byhand b101.2")
		x.image(c.im)
		x.logged(before, rec(7, l, c.says))
		same(t, "forced", x.tape.Forced(), x.tape.Len())
		x.put(x.begin(), 3, 1)
	}
	for _, state := range allStates {
		if state != doubt {
			x, l := inState(t, state)
			x.refused(api.ErrState, func() ([]unit.Out, api.Errno) { return x.u.ByHand(l, true) })
			x.refused(api.ErrState, func() ([]unit.Out, api.Errno) { return x.u.ByHand(l, false) })
		}
	}
}

func TestResetOfOneThatIsNotBad(t *testing.T) {
	x := newRig(t, 4096, 1)
	for _, p := range []int{1, 2} {
		x.refused(api.ErrState, func() ([]unit.Out, api.Errno) { return x.u.Reset(p) })
	}
	x.stranger("1:refuse", 1)
	before := x.records()
	x.reset("", 1)
	x.knows(1, "0 up")
	x.logged(before, rec(2, 1, four(0)))
	same(t, "forced", x.tape.Forced(), x.tape.Len())
	x.refused(api.ErrState, func() ([]unit.Out, api.Errno) { return x.u.Reset(1) })
}

func TestResetOfAParent(t *testing.T) {
	for _, c := range []struct {
		state                int
		outs, events, has, i string
		logs                 func(l api.Luw) []api.Rec
	}{
		{doubt, "2:ask 3:ask", "byhand b101.2", "b101.2 -1 backed=backed 2 3", "next 1",
			func(l api.Luw) []api.Rec { return []api.Rec{rec(7, l, 0), rec(5, l, 21, 5, 0, 2, 2, 3)} }},
		{heurCommit, "2:ask 3:ask", "", "b101.2 -1 committed=committed 2 3", "3=9 next 1",
			func(l api.Luw) []api.Rec { return []api.Rec{rec(5, l, 20, 4, 0, 2, 2, 3)} }},
		{heurBackout, "2:ask 3:ask", "", "b101.2 -1 backed=backed 2 3", "next 1",
			func(l api.Luw) []api.Rec { return []api.Rec{rec(5, l, 21, 5, 0, 2, 2, 3)} }},
		{committed, "", "", "b101.2 -1 committed=committed 2 3", "3=9 next 1",
			func(l api.Luw) []api.Rec { return []api.Rec{rec(5, l, 4, 4, 0, 2, 2, 3)} }},
	} {
		x, l := inState(t, c.state)
		x.stranger("1:refuse", 1)
		x.events("names 1")
		before := x.records()
		x.reset(c.outs, 1)
		x.has(c.has)
		x.events(c.events)
		x.image(c.i)
		x.logged(before, append([]api.Rec{rec(2, 1, four(0))}, c.logs(l)...)...)
		same(t, "forced", x.tape.Forced(), x.tape.Len())
		x.on("2:done", 2, api.MsgForget, l)
		x.on("3:done", 3, api.MsgForget, l)
		x.has("")
		x.events("end b101.2")
	}
}

// Kids that were not told the outcome are told it when their parent is given up.
func TestResetTellsThoseThatWereNot(t *testing.T) {
	x, _ := inState(t, committed)
	x.down("", 2)
	x.open(2)
	x.stranger("1:refuse", 1)
	x.reset("2:commit", 1)
}

func TestResetOfAParentOfOneWithoutKids(t *testing.T) {
	x := newRig(t, 4096, 1)
	l := x.given(1, 2)
	x.put(l, 3, 9)
	x.on("1:yes", 1, api.MsgPrepare, l)
	x.stranger("1:refuse", 1)
	before := x.records()
	x.reset("", 1)
	x.has("")
	x.events("names 1, byhand b101.2, end b101.2")
	x.logged(before, rec(2, 1, four(0)), rec(7, l, 0), rec(5, l, 21, 5, 0, 0), rec(6, l))
}

func TestResetOfAKid(t *testing.T) {
	for _, c := range []struct {
		state         int
		has, outs, ev string
	}{
		{doubt, "b101.2 1 doubt 3", "", "cold b101.2 2"},
		{heurCommit, "b101.2 1 heurcommit 3", "", "cold b101.2 2"},
		{committed, "b101.2 1 committed=committed 3", "", "cold b101.2 2"},
		{backed, "b101.2 1 backed=backed 3", "", "cold b101.2 2"},
	} {
		x, _ := inState(t, c.state)
		x.stranger("2:refuse", 2)
		x.u.Events()
		before := x.records()
		x.reset(c.outs, 2)
		x.has(c.has)
		x.events(c.ev)
		x.logged(before, rec(2, 2, four(0)))
		x.stranger("3:refuse", 3)
		if c.state == committed || c.state == backed {
			c.outs = "1:forget"
		}
		x.reset(c.outs, 3)
		x.events("names 3, cold b101.2 3")
		same(t, "kids", len(x.u.Works()[0].Kids), 0)
		x.down("", 3)
		x.open(3)
		x.stranger("3:refuse", 3)
		x.reset("", 3) // it forgot already
		x.events("names 3")
	}
}

// A kid that is read only is none that began cold.
func TestResetOfAKidThatDoesNotMatter(t *testing.T) {
	x, l := inState(t, pending)
	x.on("", 2, api.MsgReadOnly, l)
	x.stranger("2:refuse", 2)
	x.reset("", 2)
	x.events("names 2")
	x.on("1:yes", 3, api.MsgYes, l)
}

// A work that has nothing to do with the peer is not looked at, though it could report by now.
func TestResetOfAStrangerToAWork(t *testing.T) {
	x, l := inState(t, committed)
	x.open(4)
	x.down("", 1)
	x.on("2:done", 2, api.MsgForget, l)
	x.on("3:done", 3, api.MsgForget, l)
	x.open(1)
	x.stranger("4:refuse", 4)
	x.reset("", 4)
	x.tick("1:forget")
}

func TestResetIsRisingByName(t *testing.T) {
	x := opened(t, rec(2, 1, four(101)), rec(2, 2, four(102)), rec(5, workC, 4, 4, 2, 1, 2), rec(4, workB, 2, 1, 2), rec(3, workA, 0, 1, 1))
	x.open(1, 2)
	x.u.Events()
	x.stranger("1:refuse", 1)
	x.reset("2:ask 2:commit", 1)
	x.events("names 1, cold a7.65537 1, end a7.65537, byhand b101.2")
	x.has("b101.2 -1 backed=backed 2, b101.3 -1 committed=committed 2")
	x.stranger("2:refuse", 2)
	x.reset("", 2)
	x.events("names 2, cold b101.2 2, end b101.2, cold b101.3 2, end b101.3")
	x.has("")
}

// P19.5

func TestPeerOfWhoIsNone(t *testing.T) {
	x := newRig(t, 4096, 1)
	for _, p := range append(noUnit, 0, 2) {
		x.knows(p, "0")
	}
}

func TestEventsAreToldOnce(t *testing.T) {
	x := newRig(t, 4096)
	x.sync("", x.begin())
	x.sync("", x.begin())
	x.events("end a7.65537, end a7.65538")
	x.events("")
}

// Rule 5: what is handed out is new memory.
func TestWhatIsHandedOutIsNew(t *testing.T) {
	x, _ := inState(t, committed)
	l := x.begin()
	x.put(l, 4, 1)
	if _, e := x.u.Change(l, in5); e != api.OK {
		t.Fatal(e)
	}
	x.sync("", l)
	before := x.all()
	for _, w := range x.u.Works() {
		for i := range w.Kids {
			w.Kids[i] = 9
		}
	}
	m := x.u.Image()
	for i := range m.Pairs {
		m.Pairs[i].Val = 77
	}
	for i := range m.Items {
		m.Items[i] = 77
	}
	same(t, "all", x.all(), before)
}

// P1

func TestNoUnit(t *testing.T) {
	for _, u := range []*unit.Unit{nil, {}} {
		for _, p := range append(noUnit, 0, 1) {
			for what, call := range map[string]func() ([]unit.Out, api.Errno){
				"Up":      func() ([]unit.Out, api.Errno) { return u.Up(p) },
				"Down":    func() ([]unit.Out, api.Errno) { return u.Down(p) },
				"On":      func() ([]unit.Out, api.Errno) { return u.On(p, api.Msg{Kind: p}) },
				"Tick":    func() ([]unit.Out, api.Errno) { return u.Tick() },
				"Attach":  func() ([]unit.Out, api.Errno) { return u.Attach(workA, p) },
				"Sync":    func() ([]unit.Out, api.Errno) { return u.Sync(workA) },
				"Backout": func() ([]unit.Out, api.Errno) { return u.Backout(workA) },
				"ByHand":  func() ([]unit.Out, api.Errno) { return u.ByHand(workA, true) },
				"Reset":   func() ([]unit.Out, api.Errno) { return u.Reset(p) },
				"Begin":   func() ([]unit.Out, api.Errno) { _, e := u.Begin(); return nil, e },
				"Change":  func() ([]unit.Out, api.Errno) { _, e := u.Change(workA, api.Change{Kind: p}); return nil, e },
			} {
				if outs, e := call(); len(outs) > 0 || e != api.ErrNil {
					t.Errorf("%s of none: %v, %v", what, outs, e)
				}
			}
			if name, up, open, bad := u.Peer(p); name != 0 || up || open || bad {
				t.Errorf("Peer of none")
			}
		}
		if m := u.Image(); len(u.Works()) > 0 || len(u.Events()) > 0 || len(m.Pairs) > 0 || len(m.Items) > 0 || m.Next != 0 {
			t.Errorf("none has something")
		}
	}
}
