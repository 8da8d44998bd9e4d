package lunet_test

import (
	"testing"

	"troth/api"
	"troth/lunet"
	"troth/unit"
)

// tree is a world of four units, all linked, with a work that was begun at the unit 0, given to 1 and 2, and by 1 to 3; each unit but 2 puts its number at the key 3.
func tree(t *testing.T) rig {
	t.Helper()
	x := newRig(t, 4, 4096)
	for a := range 4 {
		for b := range a {
			x.open(a, b)
		}
	}
	x.do(lunet.Begin, 0)
	for _, p := range [][2]int{{0, 1}, {0, 2}, {1, 3}} {
		x.do(lunet.Attach, p[0], 0, p[1])
		x.do(lunet.Serve, p[0], p[1])
	}
	for _, a := range []int{0, 1, 3} {
		x.put(a, 0, 3, uint64(a+1))
	}
	return x
}

// course is the ways on which a tree's messages go, one behind the other, from when the work is asked for till it has come to its end.
var course = [][2]int{{0, 1}, {0, 2}, {1, 3}, {2, 0}, {3, 1}, {1, 0}, {0, 1}, {1, 3}, {3, 1}, {1, 3}, {1, 0}, {0, 1}}

// drain serves all that is on its way, and what comes of that.
func (x rig) drain() {
	x.Helper()
	for busy := true; busy; {
		busy = false
		for a := range x.n {
			for b := range x.n {
				for range x.w.Row(a, b) {
					x.w.Do(step(lunet.Serve, a, b))
					busy = true
				}
			}
		}
	}
}

// settle has all units up, linked, and serve and tick so often that all comes to its end: P9.
func (x rig) settle() {
	x.Helper()
	for a := range x.n {
		x.w.Do(step(lunet.Restart, a))
	}
	for a := range x.n {
		for b := range a {
			x.w.Do(step(lunet.Link, a, b))
		}
	}
	for range 12 {
		x.drain()
		for a := range x.n {
			x.do(lunet.Tick, a)
		}
	}
	for a := range x.n {
		x.has(a, "")
	}
}

// allOrNone holds the units to have all done the work, or none: P4.
func (x rig) allOrNone(all bool) {
	x.Helper()
	for a, want := range []string{"3=1", "3=2", "", "3=4"} {
		if !all {
			want = ""
		}
		x.image(a, want)
	}
}

func committed(x rig) bool { return len(events(x.w.Log(), unit.EvCommit, x.w.Luws()[0])) > 0 }

// P4

func TestAllSayYes(t *testing.T) {
	x := tree(t)
	x.do(lunet.Sync, 0, 0)
	x.drain()
	x.allOrNone(true)
	x.logs("0/1/a1.65537 1/1/a1.65537 3/1/a1.65537 0/5/a1.65537")
	x.settle()
}

// The unit 2 plays no part in what it changes nothing of.
func TestOneSaysNo(t *testing.T) {
	for no := 1; no < 4; no++ {
		for _, early := range []bool{false, true} {
			x := tree(t)
			if early {
				x.do(lunet.Backout, no, 0)
				x.do(lunet.Sync, 0, 0)
			} else {
				x.do(lunet.Sync, 0, 0)
				x.do(lunet.Backout, no, 0)
			}
			x.drain()
			x.allOrNone(false)
			if committed(x) {
				t.Errorf("%d says no, and yet it is committed", no)
			}
			x.settle()
		}
	}
}

// The whole course of a work, a unit crashing at each place of it, with each front of what was not forced: it is committed at all units or at none, and once it is committed where it was begun, it is at all: P6.
func TestACrashAtEachPlace(t *testing.T) {
	commits, backouts := 0, 0
	for at := range len(course) + 1 {
		for a := range 4 {
			for _, keep := range []int{0, 1, 8, 15, 16, 99} {
				x := tree(t)
				x.do(lunet.Sync, 0, 0)
				for _, p := range course[:at] {
					x.do(lunet.Serve, p[0], p[1])
				}
				was := committed(x)
				x.do(lunet.Crash, a, keep)
				x.drain()
				x.settle()
				all := committed(x)
				x.allOrNone(all)
				if was && !all {
					t.Errorf("a commit is lost")
				}
				if all {
					commits++
				} else {
					backouts++
				}
			}
		}
	}
	if commits == 0 || backouts == 0 {
		t.Errorf("%d commits, %d backouts", commits, backouts)
	}
}

// A link that is cut at each place does no more harm.
func TestACutAtEachPlace(t *testing.T) {
	for at := range len(course) + 1 {
		for a := range 4 {
			for b := range a {
				x := tree(t)
				x.do(lunet.Sync, 0, 0)
				for _, p := range course[:at] {
					x.do(lunet.Serve, p[0], p[1])
				}
				x.do(lunet.Cut, a, b)
				x.drain()
				x.settle()
				x.allOrNone(committed(x))
			}
		}
	}
}

// P6

func TestWhoHasVotedKeepsItsLocks(t *testing.T) {
	x := synced(t)
	x.do(lunet.Serve, 0, 1)
	x.do(lunet.Crash, 1, 0)
	x.do(lunet.Restart, 1)
	x.has(1, "a1.65537/doubt/")
	x.do(lunet.Begin, 1)
	x.change(1, 1, api.Change{Kind: 1, Key: 3, Val: 1}, 0, api.ErrLocked)
	x.change(1, 1, api.Change{Kind: 0, Key: 3}, 0, api.ErrLocked)
	x.do(lunet.Backout, 1, 1)
	x.settle()
	x.image(1, "")
	x.do(lunet.Begin, 1)
	x.put(1, 2, 3, 1)
}

func TestACommitIsNotLost(t *testing.T) {
	x := synced(t)
	x.do(lunet.Serve, 0, 1)
	x.do(lunet.Serve, 1, 0)
	x.logs("0/1/a1.65537")
	x.do(lunet.Crash, 0, 0)
	x.do(lunet.Crash, 1, 0)
	x.settle()
	x.image(1, "3=9")
	x.logs("0/1/a1.65537 1/1/a1.65537 0/5/a1.65537")
}

// P7

// A decision by hand that is not the outcome is told up to where the work was begun, over a unit that took none.
func TestDamageIsReported(t *testing.T) {
	for _, commit := range []bool{false, true} {
		x := tree(t)
		x.do(lunet.Sync, 0, 0)
		for _, p := range [][2]int{{0, 1}, {1, 3}} {
			x.do(lunet.Serve, p[0], p[1])
		}
		if commit {
			x.do(lunet.Cut, 0, 1) // the outcome is to be backed out
			x.do(lunet.Cut, 1, 3)
		} else {
			x.drain0()
			x.do(lunet.Cut, 1, 3)
		}
		x.byHand(3, 0, commit)
		x.drain()
		x.settle()
		same(t, "outcome", committed(x), !commit)
		l := x.w.Luws()[0]
		mixed := events(x.w.Log(), unit.EvMixed, l)
		want := []lunet.Event{
			{Unit: 3, Name: 4, E: unit.Event{Kind: unit.EvMixed, Luw: l, Peer: 3}},
			{Unit: 1, Name: 2, E: unit.Event{Kind: unit.EvMixed, Luw: l, Peer: 3}},
			{Unit: 0, Name: 1, E: unit.Event{Kind: unit.EvMixed, Luw: l, Peer: 1}},
		}
		if len(mixed) != 3 || mixed[0] != want[0] || mixed[1] != want[1] || mixed[2] != want[2] {
			t.Errorf("commit %v: mixed %v", commit, mixed)
		}
	}
}

// drain0 serves what the unit 3 has to vote with, till the work is committed where it was begun.
func (x rig) drain0() {
	x.Helper()
	for _, p := range [][2]int{{3, 1}, {1, 0}, {0, 2}, {2, 0}} {
		x.do(lunet.Serve, p[0], p[1])
	}
}

func TestADecisionThatWasTheOutcomeIsNoDamage(t *testing.T) {
	x := tree(t)
	x.do(lunet.Sync, 0, 0)
	for _, p := range [][2]int{{0, 1}, {1, 3}} {
		x.do(lunet.Serve, p[0], p[1])
	}
	x.drain0()
	x.do(lunet.Cut, 1, 3)
	x.byHand(3, 0, true)
	x.settle()
	x.allOrNone(true)
	same(t, "mixed", len(events(x.w.Log(), unit.EvMixed, x.w.Luws()[0])), 0)
}

// P8

func TestNothingGoesBetweenStrangers(t *testing.T) {
	x := synced(t)
	x.do(lunet.Serve, 0, 1)
	x.has(1, "a1.65537/doubt/")
	x.do(lunet.Crash, 0, 0)
	x.do(lunet.Cold, 0)
	x.do(lunet.Link, 0, 1)
	x.drain()
	x.knows(1, 0, "1 up bad")
	for range 12 {
		x.do(lunet.Tick, 0)
		x.do(lunet.Tick, 1)
		x.onItsWay(0, 1, "")
		x.onItsWay(1, 0, "")
	}
	x.do(lunet.Begin, 1)
	x.refused(api.ErrNames, step(lunet.Attach, 1, 1, 0))
	x.has(1, "a1.65537/doubt/ b2.65537/active/")
	x.byHand(1, 0, true) // but by hand
	x.has(1, "a1.65537/heurcommit/ b2.65537/active/")
	x.image(1, "3=9")
	x.do(lunet.Reset, 1, 0)
	x.has(1, "b2.65537/active/")
	x.image(1, "3=9")
}

// A link that goes and comes makes no friends of strangers.
func TestStrangersStayStrangers(t *testing.T) {
	x := synced(t)
	x.do(lunet.Serve, 0, 1)
	x.do(lunet.Crash, 0, 0)
	x.do(lunet.Cold, 0)
	for range 3 {
		x.do(lunet.Link, 0, 1)
		x.drain()
		x.knows(1, 0, "1 up bad")
		x.knows(0, 1, "0 up bad")
		x.do(lunet.Cut, 0, 1)
		x.knows(1, 0, "1")
	}
	x.do(lunet.Crash, 1, 0)
	x.do(lunet.Restart, 1)
	x.do(lunet.Link, 0, 1)
	x.drain()
	x.knows(1, 0, "1 up bad")
	x.has(1, "a1.65537/doubt/")
	x.do(lunet.Reset, 1, 0)
	x.do(lunet.Reset, 0, 1)
	x.has(1, "")
	x.do(lunet.Cut, 0, 1)
	x.do(lunet.Link, 0, 1)
	x.drain()
	x.knows(1, 0, "3 up open")
	x.knows(0, 1, "2 up open")
}

// A unit that goes in such a net leaves its kids to give the work up, too.
func TestAWorkThatIsGivenUpIsGivenUpByItsKids(t *testing.T) {
	x := tree(t)
	x.do(lunet.Sync, 0, 0)
	for _, p := range [][2]int{{0, 1}, {1, 3}, {3, 1}} {
		x.do(lunet.Serve, p[0], p[1])
	}
	x.has(1, "a1.65537/doubt/3")
	x.has(3, "a1.65537/doubt/")
	x.do(lunet.Crash, 0, 0)
	x.do(lunet.Cold, 0)
	x.do(lunet.Link, 0, 1)
	x.drain()
	x.byHand(3, 0, true) // what was done stays, where it was done
	x.do(lunet.Reset, 1, 0)
	x.onItsWay(1, 3, "ask")
	x.drain()
	x.has(1, "")
	x.has(3, "")
	x.image(1, "")
	x.image(3, "3=4")
}
