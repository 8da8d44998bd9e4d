package unit_test

import (
	"testing"

	"troth/api"
	"troth/unit"
)

// inState is a rig with the work b101.2 of the unit 1, which has the kids 2 and 3 and a change, in a state; what happened till then is gone from its events.
func inState(t *testing.T, state int) (rig, api.Luw) {
	t.Helper()
	x := newRig(t, 4096, 1, 2, 3)
	l := x.given(1, 2)
	x.attach(l, 2, 3)
	x.put(l, 3, 9)
	if state != active {
		x.on("2:prepare 3:prepare", 1, api.MsgPrepare, l)
	}
	if state == backed {
		x.on("2:backout 3:backout 1:no", 2, api.MsgNo, l)
	}
	if state == doubt || state > doubt && state != backed {
		x.on("", 2, api.MsgYes, l)
		x.on("1:yes", 3, api.MsgYes, l)
	}
	switch state {
	case committed:
		x.on("2:commit 3:commit", 1, api.MsgCommit, l)
	case heurCommit, heurBackout:
		x.byHand(l, state == heurCommit)
	}
	same(t, "state", x.u.Works()[0].State, state)
	x.u.Events()
	return x, l
}

var allStates = []int{active, pending, doubt, committed, backed, heurCommit, heurBackout}

// none is the name of a work that is nowhere.
var none = api.Luw{Unit: 1, Life: 101, Seq: 99}

var aboutWorks = []int{
	api.MsgAttach, api.MsgPrepare, api.MsgYes, api.MsgReadOnly, api.MsgNo, api.MsgAsk,
	api.MsgCommit, api.MsgBackout, api.MsgForget, api.MsgDone, api.MsgQuery,
}

func TestOnOfWhatIsNotRight(t *testing.T) {
	x, l := inState(t, active)
	for _, m := range []api.Msg{
		{}, {Kind: 14}, {Kind: -1}, {Kind: api.MsgCommit}, {Kind: api.MsgCommit, Luw: api.Luw{Unit: 6, Seq: 1}},
		{Kind: api.MsgCommit, Luw: l, Mixed: true}, {Kind: api.MsgNames}, {Kind: api.MsgRefuse, Luw: l}, {Kind: api.MsgRefuse, Mine: 1},
	} {
		for _, from := range []int{1, 4, 0, -1} { // ahead of whether it is up
			x.refused(api.ErrKind, func() ([]unit.Out, api.Errno) { return x.u.On(from, m) })
		}
	}
}

func TestOnOfWhoIsNoPeerThatIsUp(t *testing.T) {
	x, l := inState(t, active)
	for _, from := range append(noUnit, 0, 4, 5) {
		for _, m := range []api.Msg{{Kind: api.MsgBackout, Luw: l}, {Kind: api.MsgNames, Mine: 1}, {Kind: api.MsgRefuse}} {
			x.refused(api.ErrDown, func() ([]unit.Out, api.Errno) { return x.u.On(from, m) })
		}
	}
}

func TestOnOfWhoIsNotOpen(t *testing.T) {
	x, _ := inState(t, doubt)
	if _, e := x.u.Up(4); e != api.OK {
		t.Fatal(e)
	}
	for _, kind := range aboutWorks {
		x.onRefused(api.ErrNames, 4, kind, none)
	}
	x.stranger("1:refuse", 1)
	for _, kind := range aboutWorks {
		x.onRefused(api.ErrNames, 1, kind, none)
	}
}

// Names

func TestNamesOpenASession(t *testing.T) {
	x := newRig(t, 4096)
	for range 2 { // whose name is New, and one that is Fine
		before := x.records()
		saved, _, _, _ := x.u.Peer(1)
		x.open(1)
		x.knows(1, "101 up open")
		if saved == 0 {
			x.logged(before, rec(2, 1, four(101)))
			same(t, "forced", x.tape.Forced(), x.tape.Len())
		} else {
			x.logged(before)
		}
	}
	x.events("")
}

func TestNamesThatDoNotMatch(t *testing.T) {
	for _, c := range []struct {
		what       string
		mine, your uint32
	}{{"changed", 102, 7}, {"changed, and remembers nothing", 102, 0}, {"strange", 101, 8}} {
		t.Run(c.what, func(t *testing.T) {
			x := newRig(t, 4096, 1)
			before := x.records()
			outs, e := x.u.On(1, api.Msg{Kind: api.MsgNames, Mine: c.mine, Your: c.your})
			x.sends("1:refuse", outs, e)
			x.knows(1, "101 up bad")
			x.events("names 1")
			x.logged(before)
		})
	}
}

// What is Forgot hangs on the works that are logged with the peer.
func TestNamesOfOneThatForgot(t *testing.T) {
	for _, c := range []struct {
		what   string
		from   int
		wanted string // of the names of a peer that remembers nothing
		ready  func(x rig, l api.Luw)
	}{
		{"the parent of one in doubt", 1, "1:refuse", func(rig, api.Luw) {}},
		{"a kid that has not forgotten", 2, "2:refuse", func(rig, api.Luw) {}},
		{"one without works", 4, "", func(rig, api.Luw) {}},
		{"a kid that forgot", 2, "", func(x rig, l api.Luw) {
			x.on("2:commit 3:commit", 1, api.MsgCommit, l)
			x.on("2:done", 2, api.MsgForget, l)
		}},
		{"a kid of one that goes on", 3, "3:refuse", func(x rig, l api.Luw) {
			x.on("2:commit 3:commit", 1, api.MsgCommit, l)
			x.on("2:done", 2, api.MsgForget, l)
		}},
	} {
		t.Run(c.what, func(t *testing.T) {
			x, l := inState(t, doubt)
			c.ready(x, l)
			x.open(4)
			outs, e := x.u.On(c.from, api.Msg{Kind: api.MsgNames, Mine: uint32(100 + c.from)})
			x.sends(c.wanted, outs, e)
		})
	}
	t.Run("one that is active is not logged", func(t *testing.T) {
		x, _ := inState(t, active)
		outs, e := x.u.On(1, api.Msg{Kind: api.MsgNames, Mine: 101})
		x.sends("", outs, e)
		x.knows(1, "101 up open")
	})
	t.Run("a kid that is read only", func(t *testing.T) {
		x, l := inState(t, pending)
		x.on("", 2, api.MsgReadOnly, l)
		outs, e := x.u.On(2, api.Msg{Kind: api.MsgNames, Mine: 102})
		x.sends("", outs, e)
	})
}

func TestNamesThatMatchAgain(t *testing.T) {
	x := newRig(t, 4096, 1)
	x.stranger("1:refuse", 1)
	outs, e := x.u.On(1, api.Msg{Kind: api.MsgNames, Mine: 101, Your: 7})
	x.sends("", outs, e)
	x.knows(1, "101 up open")
}

func TestRefuse(t *testing.T) {
	x, _ := inState(t, active)
	for _, p := range []int{1, 4} {
		if _, e := x.u.Up(4); e != api.OK {
			t.Fatal(e)
		}
		want := map[int]string{1: "2:backout 3:backout", 4: ""}[p]
		outs, e := x.u.On(p, api.Msg{Kind: api.MsgRefuse})
		x.sends(want, outs, e)
	}
	x.knows(1, "101 up bad")
	x.knows(4, "0 up bad")
	x.events("names 1, backout b101.2, names 4")
	x.has("")
}

// What fails is told behind the refusal, to those that are open still.
func TestAMismatchFails(t *testing.T) {
	x, _ := inState(t, active)
	x.stranger("2:refuse 3:backout 1:no", 2)
	x.events("names 2, backout b101.2")
	x.has("")
}

// Attach

func TestAttachMakesAWork(t *testing.T) {
	x := newRig(t, 4096, 1, 2)
	before := x.records()
	l := x.given(1, 2)
	x.has("b101.2 1 active")
	x.logged(before)
	x.on("1:no", 1, api.MsgAttach, l)
	x.on("2:no", 2, api.MsgAttach, l)
	x.has("b101.2 1 active")
	own := x.begin()
	x.on("1:no", 1, api.MsgAttach, own)
	x.has("a7.65537 -1 active, b101.2 1 active")
}

func TestAttachOfMoreThanTheMost(t *testing.T) {
	x := newRig(t, 4096, 1)
	for seq := range api.MaxWorks {
		x.given(1, uint32(seq+1))
	}
	x.on("1:no", 1, api.MsgAttach, none)
	same(t, "works", len(x.u.Works()), api.MaxWorks)
}

func TestANameThatIsSpent(t *testing.T) {
	spend := func(x rig, l api.Luw) {
		x.on("", 1, api.MsgBackout, l)
		x.on("1:no", 1, api.MsgAttach, l)
		x.has("")
	}
	x := newRig(t, 4096, 1, 2)
	l := x.given(1, 2)
	spend(x, l) // it was Active, and backed out
	x.given(1, 3)
	c := x.given(1, 4)
	x.put(c, 3, 9)
	x.on("1:yes", 1, api.MsgPrepare, c)
	x.on("1:forget", 1, api.MsgCommit, c)
	x.on("", 1, api.MsgDone, c)
	x.on("1:no", 1, api.MsgAttach, c) // it was committed
	x.on("2:no", 2, api.MsgAttach, c)
	r := x.given(1, 5)
	x.on("1:readonly", 1, api.MsgPrepare, r)
	x.on("", 1, api.MsgAttach, r) // it was read only, and has no outcome
	x.has("b101.3 1 active, b101.5 1 active")
	x.again(99)
	x.open(1)
	x.on("", 1, api.MsgAttach, l) // since the unit came up
	x.has("b101.2 1 active")
}

// Prepare

func TestPrepareOfNoWorkOfThatParent(t *testing.T) {
	for _, state := range allStates {
		x, l := inState(t, state)
		before := x.all()
		x.on("1:no", 1, api.MsgPrepare, none)
		x.on("2:no", 2, api.MsgPrepare, l)
		same(t, "all", x.all(), before)
		if state != active {
			x.onRefused(api.ErrState, 1, api.MsgPrepare, l)
		}
	}
}

func TestPrepareAsksTheKids(t *testing.T) {
	x, l := inState(t, active)
	before := x.records()
	x.on("2:prepare 3:prepare", 1, api.MsgPrepare, l)
	x.has("b101.2 1 pending 2 3")
	x.logged(before, rec(3, l, 2, 2, 2, 3))
	same(t, "forced", x.tape.Forced(), x.tape.Len())
	x.image("next 1")
	x.events("")
}

func TestPrepareOfOneWithoutKids(t *testing.T) {
	x := newRig(t, 4096, 1)
	before := x.records()
	l := x.given(1, 2)
	x.put(l, 3, 9)
	x.on("1:yes", 1, api.MsgPrepare, l)
	x.has("b101.2 1 doubt")
	x.logged(before, rec(4, l, 2, 0, key3))
	same(t, "forced", x.tape.Forced(), x.tape.Len())
	x.image("next 1")
	x.events("")
}

func TestPrepareOfOneThatChangedNothing(t *testing.T) {
	x := newRig(t, 4096, 1)
	before := x.records()
	l := x.given(1, 2)
	if _, e := x.u.Change(l, api.Change{Kind: 0, Key: 3}); e != api.OK {
		t.Fatal(e)
	}
	x.on("1:readonly", 1, api.MsgPrepare, l)
	x.has("")
	x.events("")
	x.logged(before)
	x.put(x.begin(), 3, 9) // and holds no lock
}

// A no that came ahead of that is remembered.
func TestPrepareOfOneWhoseKidSaidNo(t *testing.T) {
	x, l := inState(t, active)
	before := x.records()
	x.on("", 3, api.MsgNo, l)
	x.has("b101.2 1 active 2 3")
	x.on("2:backout 3:backout 1:no", 1, api.MsgPrepare, l)
	x.has("")
	x.events("backout b101.2")
	x.logged(before)
	x.put(x.begin(), 3, 1)
}

// Votes

func TestVotesOfNoKid(t *testing.T) {
	for _, state := range allStates {
		x, l := inState(t, state)
		x.open(4)
		before := x.all()
		for _, name := range []api.Luw{l, none} {
			for _, from := range []int{1, 4} {
				x.on("", from, api.MsgReadOnly, name)
				x.on("", from, api.MsgNo, name)
			}
			x.on("1:backout", 1, api.MsgYes, name)
			x.on("4:backout", 4, api.MsgYes, name)
		}
		same(t, "all", x.all(), before)
		x.events("")
	}
}

func TestVotesOfOneThatIsActive(t *testing.T) {
	x, l := inState(t, active)
	x.onRefused(api.ErrState, 2, api.MsgYes, l)
	x.onRefused(api.ErrState, 2, api.MsgReadOnly, l)
	x.on("", 2, api.MsgNo, l)
	for _, kind := range []int{api.MsgYes, api.MsgReadOnly, api.MsgNo} {
		x.onRefused(api.ErrState, 2, kind, l)
	}
}

func TestVotesThatCameAlready(t *testing.T) {
	for _, state := range []int{doubt, committed, heurCommit, heurBackout} {
		x, l := inState(t, state)
		for _, kind := range []int{api.MsgYes, api.MsgReadOnly, api.MsgNo} {
			x.onRefused(api.ErrState, 2, kind, l)
		}
	}
	for _, kind := range []int{api.MsgYes, api.MsgReadOnly} {
		x, l := inState(t, pending)
		x.on("", 2, kind, l)
		for _, again := range []int{api.MsgYes, api.MsgReadOnly, api.MsgNo} {
			x.onRefused(api.ErrState, 2, again, l)
		}
	}
}

func TestAllVotedYes(t *testing.T) {
	x, l := inState(t, pending)
	before := x.records()
	x.on("", 3, api.MsgYes, l)
	x.has("b101.2 1 pending 2 3")
	x.logged(before)
	x.on("1:yes", 2, api.MsgYes, l)
	x.has("b101.2 1 doubt 2 3")
	x.logged(before, rec(4, l, 2, 2, 2, 3, key3))
	same(t, "forced", x.tape.Forced(), x.tape.Len())
}

func TestKidsThatAreReadOnlyMatterNoMore(t *testing.T) {
	x, l := inState(t, pending)
	before := x.records()
	x.on("", 2, api.MsgReadOnly, l)
	x.has("b101.2 1 pending 3")
	x.on("1:yes", 3, api.MsgYes, l)
	x.logged(before, rec(4, l, 2, 1, 3, key3))
	x.on("3:commit", 1, api.MsgCommit, l)
	x.on("3:done 1:forget", 3, api.MsgForget, l)
}

func TestAllAreReadOnly(t *testing.T) {
	x := newRig(t, 4096, 1, 2)
	l := x.given(1, 2)
	x.attach(l, 2)
	x.on("2:prepare", 1, api.MsgPrepare, l)
	before := x.records()
	x.on("1:readonly", 2, api.MsgReadOnly, l)
	x.has("")
	x.events("")
	x.logged(before, rec(6, l))
	same(t, "forced", x.tape.Forced(), x.tape.Len())
}

// With changes of its own, or a kid's, it is not read only.
func TestReadOnlyKidsWithChangesHere(t *testing.T) {
	x, l := inState(t, pending)
	x.on("", 2, api.MsgReadOnly, l)
	x.on("1:yes", 3, api.MsgReadOnly, l)
	x.has("b101.2 1 doubt")
	x.on("1:forget", 1, api.MsgCommit, l)
	x.image("3=9 next 1")
	y := newRig(t, 4096, 1, 2)
	l = y.given(1, 2)
	y.attach(l, 2)
	y.on("2:prepare", 1, api.MsgPrepare, l)
	y.on("1:yes", 2, api.MsgYes, l)
	y.has("b101.2 1 doubt 2")
}

func TestANoBacksOut(t *testing.T) {
	x, l := inState(t, pending)
	before := x.records()
	x.on("", 3, api.MsgYes, l)
	x.on("2:backout 3:backout 1:no", 2, api.MsgNo, l)
	x.has("b101.2 1 backed=backed 2 3")
	x.events("backout b101.2")
	x.logged(before, rec(5, l, 5, 5, 2, 2, 2, 3))
	same(t, "forced", x.tape.Forced(), x.tape.Len())
	x.put(x.begin(), 3, 1)
}

func TestAVoteThatComesLate(t *testing.T) {
	for _, c := range []struct {
		kind int
		want string
	}{{api.MsgYes, "b101.2 1 backed=backed 3"}, {api.MsgNo, "b101.2 1 backed=backed 3"}, {api.MsgReadOnly, "b101.2 1 backed=backed"}} {
		x, l := inState(t, backed) // the unit 2 said no
		x.on("2:done", 2, api.MsgForget, l)
		before := x.records()
		wants := ""
		if c.kind == api.MsgReadOnly {
			wants = "1:forget" // all that matter forgot
		}
		x.on(wants, 3, c.kind, l)
		x.has(c.want)
		x.logged(before)
		x.onRefused(api.ErrState, 2, api.MsgYes, l)
		x.onRefused(api.ErrState, 3, api.MsgReadOnly, l)
	}
}

// One that forgets without a vote says no by that.
func TestForgetIsANo(t *testing.T) {
	x, l := inState(t, backed)
	x.on("3:done", 3, api.MsgForget, l)
	for _, kind := range []int{api.MsgYes, api.MsgReadOnly, api.MsgNo} {
		x.onRefused(api.ErrState, 3, kind, l)
	}
	x.has("b101.2 1 backed=backed 2")
}

// Outcomes

func TestOutcomesOfNoWorkOfThatParent(t *testing.T) {
	for _, state := range allStates {
		x, l := inState(t, state)
		before := x.all()
		for _, kind := range []int{api.MsgCommit, api.MsgBackout, api.MsgAsk} {
			x.on("1:forget", 1, kind, none)
			x.on("2:forget", 2, kind, l)
		}
		same(t, "all", x.all(), before)
		x.events("")
	}
}

func TestOutcomesOfOneThatHasNotVoted(t *testing.T) {
	for _, state := range []int{active, pending} {
		x, l := inState(t, state)
		before := x.records()
		x.onRefused(api.ErrState, 1, api.MsgCommit, l)
		x.onRefused(api.ErrState, 1, api.MsgAsk, l)
		x.on("2:backout 3:backout", 1, api.MsgBackout, l) // without a no
		x.events("backout b101.2")
		if state == active {
			x.has("")
			x.logged(before)
		} else {
			x.has("b101.2 1 backed=backed 2 3")
			x.logged(before, rec(5, l, 5, 5, 2, 2, 2, 3))
		}
	}
}

func TestOutcomesOfOneInDoubt(t *testing.T) {
	for _, c := range []struct {
		kind, outcome        int
		outs, event, has, im string
	}{
		{api.MsgCommit, 4, "2:commit 3:commit", "commit b101.2", "b101.2 1 committed=committed 2 3", "3=9 next 1"},
		{api.MsgBackout, 5, "2:backout 3:backout", "backout b101.2", "b101.2 1 backed=backed 2 3", "next 1"},
	} {
		x, l := inState(t, doubt)
		before := x.records()
		x.on(c.outs, 1, c.kind, l)
		x.has(c.has)
		x.events(c.event)
		x.image(c.im)
		x.logged(before, rec(5, l, c.outcome, c.outcome, 2, 2, 2, 3))
		same(t, "forced", x.tape.Forced(), x.tape.Len())
		x.put(x.begin(), 3, 1) // it holds no lock
	}
}

// The outcome is told to the kids; what was done here stays, and is damage if it is not that.
func TestOutcomesOfOneDecidedByHand(t *testing.T) {
	for _, c := range []struct {
		state, kind, outcome, did int
		outs, events, has, im     string
	}{
		{heurCommit, api.MsgCommit, 4, 4, "2:commit 3:commit", "", "b101.2 1 committed=committed 2 3", "3=9 next 1"},
		{heurCommit, api.MsgBackout, 5, 4, "2:backout 3:backout", "mixed b101.2 0", "b101.2 1 committed=backed 2 3!", "3=9 next 1"},
		{heurBackout, api.MsgCommit, 4, 5, "2:commit 3:commit", "mixed b101.2 0", "b101.2 1 backed=committed 2 3!", "next 1"},
		{heurBackout, api.MsgBackout, 5, 5, "2:backout 3:backout", "", "b101.2 1 backed=backed 2 3", "next 1"},
	} {
		x, l := inState(t, c.state)
		before := x.records()
		x.on(c.outs, 1, c.kind, l)
		x.has(c.has)
		x.events(c.events)
		x.image(c.im)
		want := []api.Rec{rec(5, l, c.outcome, c.did, 2, 2, 2, 3)}
		mark := ""
		if c.outcome != c.did {
			want = append(want, rec(8, l))
			mark = "!"
		}
		x.logged(before, want...)
		same(t, "forced", x.tape.Forced(), x.tape.Len())
		x.on("2:done", 2, api.MsgForget, l)
		x.on("3:done 1:forget"+mark, 3, api.MsgForget, l)
		x.on("1:forget"+mark, 1, c.kind, l)
		x.on("", 1, api.MsgDone, l)
		x.has("")
		x.events("")
	}
}

// A kid that forgot a work in doubt ahead of its outcome, because its unit began cold, is not told it.
func TestOutcomesAreToldToThoseThatHaveNotForgotten(t *testing.T) {
	for _, state := range []int{doubt, heurCommit} {
		x, l := inState(t, state)
		x.stranger("2:refuse", 2)
		x.reset("", 2)
		x.events("names 2, cold b101.2 2")
		x.down("", 2)
		x.open(2)
		before := x.records()
		x.on("3:commit", 1, api.MsgCommit, l)
		x.has("b101.2 1 committed=committed 3")
		x.logged(before, rec(5, l, 4, 4, 2, 1, 3))
	}
}

func TestOutcomesThatComeAgain(t *testing.T) {
	for _, state := range []int{committed, backed} {
		for _, kind := range []int{api.MsgCommit, api.MsgBackout, api.MsgAsk} {
			x, l := inState(t, state)
			x.on("", 1, kind, l) // its kids have not forgotten
			x.on("2:done", 2, api.MsgForget, l)
			x.on("3:done 1:forget", 3, api.MsgForget, l)
			before := x.all()
			x.on("1:forget", 1, kind, l) // though it has reported already
			x.tick("")
			same(t, "all", x.all(), before)
		}
	}
}

// Forget

func TestForgetOfNoKid(t *testing.T) {
	for _, state := range allStates {
		x, l := inState(t, state)
		before := x.all()
		x.on("1:done", 1, api.MsgForget, l)
		x.on("2:done", 2, api.MsgForget, none)
		x.onMixed("2:done", 2, none)
		if state != committed && state != backed { // no outcome is known
			x.on("2:done", 2, api.MsgForget, l)
			x.onMixed("3:done", 3, l)
		}
		same(t, "all", x.all(), before)
		x.events("")
	}
}

func TestForget(t *testing.T) {
	for _, state := range []int{committed, backed} {
		x, l := inState(t, state)
		before := x.records()
		x.on("3:done", 3, api.MsgForget, l)
		if w := x.u.Works()[0]; len(w.Kids) != 1 || w.Kids[0] != 2 {
			t.Errorf("kids %v", w.Kids)
		}
		x.on("3:done", 3, api.MsgForget, l)
		x.on("2:done 1:forget", 2, api.MsgForget, l)
		x.on("2:done", 2, api.MsgForget, l) // it has reported
		x.logged(before)
		x.events("")
		x.on("", 1, api.MsgDone, l)
		x.has("")
		x.logged(before, rec(6, l))
		if x.tape.Forced() == x.tape.Len() {
			t.Errorf("an end is forced")
		}
		x.events("")
	}
}

func TestForgetWithDamage(t *testing.T) {
	x, l := inState(t, committed)
	before := x.records()
	x.onMixed("2:done", 2, l)
	x.has("b101.2 1 committed=committed 3!")
	x.events("mixed b101.2 2")
	x.logged(before, rec(8, l))
	same(t, "forced", x.tape.Forced(), x.tape.Len())
	x.onMixed("2:done", 2, l) // that it is mixed is known
	x.onMixed("3:done 1:forget!", 3, l)
	x.events("")
	x.logged(before, rec(8, l))
}

// Where the work was begun the damage is reported, too.
func TestDamageComesToWhereItWasBegun(t *testing.T) {
	x := newRig(t, 4096, 1)
	l := x.begin()
	x.attach(l, 1)
	x.put(l, 3, 9)
	x.sync("1:prepare", l)
	x.on("1:commit", 1, api.MsgYes, l)
	x.events("commit a7.65537")
	x.onMixed("1:done", 1, l)
	x.events("mixed a7.65537 1, end a7.65537")
	x.has("")
}

// Done

func TestDone(t *testing.T) {
	for _, state := range allStates {
		x, l := inState(t, state)
		before := x.all()
		x.on("", 1, api.MsgDone, none)
		x.on("", 2, api.MsgDone, l)
		x.on("", 1, api.MsgDone, l) // it is not finished
		same(t, "all", x.all(), before)
	}
	x := newRig(t, 4096, 1)
	own, l := x.begin(), x.given(1, 2)
	x.put(l, 3, 9)
	x.on("1:yes", 1, api.MsgPrepare, l)
	for _, name := range []api.Luw{own, l} { // of one without kids, too, an outcome is waited for
		x.on("", 1, api.MsgDone, name)
	}
	x.has("a7.65537 -1 active, b101.2 1 doubt")
}

// Query

func TestQuery(t *testing.T) {
	for state, want := range map[int]string{
		active: "", pending: "", doubt: "", heurCommit: "", heurBackout: "", committed: "2:commit", backed: "2:backout",
	} {
		x, l := inState(t, state)
		before := x.all()
		x.on("1:backout", 1, api.MsgQuery, l)
		x.on("2:backout", 2, api.MsgQuery, none)
		x.on(want, 2, api.MsgQuery, l)
		x.on(want, 2, api.MsgQuery, l)
		same(t, "all", x.all(), before)
		x.events("")
	}
}

// One that asked was told then: a tick tells it no more.
func TestQueryTells(t *testing.T) {
	x := opened(t, rec(2, 2, four(102)), rec(2, 3, four(103)), rec(5, workA, 4, 4, 0, 2, 2, 3))
	x.open(2, 3)
	x.on("3:commit", 3, api.MsgQuery, workA)
	x.tick("2:commit")
	x.tick("")
}

// Ask

func TestAskOfOneInDoubt(t *testing.T) {
	x, l := inState(t, doubt)
	before := x.records()
	x.on("2:ask 3:ask", 1, api.MsgAsk, l)
	x.has("b101.2 1 backed=backed 2 3")
	x.events("byhand b101.2")
	x.logged(before, rec(7, l, 0), rec(5, l, 21, 5, 2, 2, 2, 3))
	same(t, "forced", x.tape.Forced(), x.tape.Len())
	x.image("next 1")
	x.put(x.begin(), 3, 1)
	x.on("2:ask", 2, api.MsgQuery, l)
	x.on("2:done", 2, api.MsgForget, l)
	x.on("3:done 1:forget", 3, api.MsgForget, l)
}

func TestAskOfOneDecidedByHand(t *testing.T) {
	for _, state := range []int{heurCommit, heurBackout} {
		x, l := inState(t, state)
		before := x.records()
		x.on("2:ask 3:ask", 1, api.MsgAsk, l)
		did, has, im := 4, "b101.2 1 committed=committed 2 3", "3=9 next 1"
		if state == heurBackout {
			did, has, im = 5, "b101.2 1 backed=backed 2 3", "next 1"
		}
		x.has(has)
		x.image(im)
		x.events("")
		x.logged(before, rec(5, l, did+16, did, 2, 2, 2, 3))
	}
}

func TestAskOfOneWithoutKidsReports(t *testing.T) {
	x := newRig(t, 4096, 1)
	l := x.given(1, 2)
	x.put(l, 3, 9)
	x.on("1:yes", 1, api.MsgPrepare, l)
	x.on("1:forget", 1, api.MsgAsk, l)
	x.has("b101.2 1 backed=backed")
	x.on("1:forget", 1, api.MsgAsk, l)
}

// A peer fails

func TestAPeerFails(t *testing.T) {
	for _, c := range []struct {
		what         string
		state, peer  int
		voted        bool // the kid 2, with a yes
		outs, has, e string
	}{
		{"the parent of one that is active", active, 1, false, "2:backout 3:backout", "", "backout b101.2"},
		{"a kid of one that is active", active, 2, false, "3:backout 1:no", "", "backout b101.2"},
		{"the parent of one that is pending", pending, 1, false, "2:backout 3:backout", "b101.2 1 backed=backed 2 3", "backout b101.2"},
		{"a kid of one that is pending", pending, 3, true, "2:backout 1:no", "b101.2 1 backed=backed 2 3", "backout b101.2"},
		{"a kid of one that is pending, which voted", pending, 2, true, "", "b101.2 1 pending 2 3", ""},
		{"the parent of one in doubt", doubt, 1, false, "", "b101.2 1 doubt 2 3", ""},
		{"a kid of one in doubt", doubt, 2, false, "", "b101.2 1 doubt 2 3", ""},
		{"the parent of one that is committed", committed, 1, false, "", "b101.2 1 committed=committed 2 3", ""},
		{"the parent of one decided by hand", heurBackout, 1, false, "", "b101.2 1 heurbackout 2 3", ""},
		{"a stranger to it", active, 4, false, "", "b101.2 1 active 2 3", ""},
	} {
		for _, bad := range []bool{false, true} {
			t.Run(c.what, func(t *testing.T) {
				x, l := inState(t, c.state)
				x.open(4)
				if c.voted {
					x.on("", 2, api.MsgYes, l)
				}
				if bad {
					outs, e := x.u.On(c.peer, api.Msg{Kind: api.MsgRefuse})
					x.sends(c.outs, outs, e)
					x.u.Events()
					x.has(c.has)
					return
				}
				x.down(c.outs, c.peer)
				x.has(c.has)
				x.events(c.e)
			})
		}
	}
}

// Works fail rising by name.
func TestManyFail(t *testing.T) {
	x := newRig(t, 4096, 1, 2)
	b, a := x.begin(), x.begin()
	x.attach(a, 1, 2)
	x.attach(b, 2, 1)
	c := x.given(1, 1)
	x.attach(c, 2)
	x.down("2:backout 2:backout 2:backout", 1)
	x.events("backout a7.65537, backout a7.65538, backout b101.1")
}
