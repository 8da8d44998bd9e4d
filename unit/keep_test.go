package unit_test

import (
	"slices"
	"testing"

	"troth/api"
	"troth/luw"
)

// sizeOf is how many bytes records take: each seven beside its body.
func sizeOf(list ...api.Rec) int {
	n := 0
	for _, r := range list {
		n += 7 + len(r.Body)
	}
	return n
}

// churn has the log grow by records of 12 bytes each, which a pack leaves out: the peer 5 is met, found to be another one, and reset, again and again.
func (x rig) churn(n int) {
	x.Helper()
	for range n {
		if saved, _, _, _ := x.u.Peer(5); saved == 0 {
			x.open(5)
			continue
		}
		x.stranger("5:refuse", 5)
		x.reset("", 5)
	}
}

// vote is a work of one change that is asked for its vote, what that writes, and which change it is.
func (x rig) vote(n int, want string) (api.Luw, api.Rec) {
	x.Helper()
	l := x.given(1, uint32(n+1))
	x.put(l, n, 9)
	x.on(want, 1, api.MsgPrepare, l)
	return l, rec(4, l, 2, 0, api.Change{Kind: 1, Key: n, Val: 9})
}

// A record that may be refused needs room for itself, and for what its work and the others that are logged may write yet: a log without that is packed, and if that does not make the room, it is refused.
func TestVotesNeedRoom(t *testing.T) {
	const own = 18 + 17 // bytes of a record 4 with one change
	counts := map[string]int{}
	for room := 2048; room < 2448; room++ {
		x := newRig(t, room, 1)
		packed := []api.Rec{first, rec(2, 1, four(101)), noImage}
		for n := range api.MaxWorks {
			x.churn(2 * (room % 7))
			need := own + 128*(n+1) + 1024
			fits, before := room-x.tape.Len() >= need, x.records()
			if !fits && room-sizeOf(packed...) < need {
				l, _ := x.vote(n, "1:no")
				x.logged(0, packed...)
				x.has(x.without(l))
				counts["refused"]++
				break
			}
			_, doubts := x.vote(n, "1:yes")
			if fits {
				x.logged(before, doubts)
				counts["fits"]++
			} else {
				x.logged(0, append(slices.Clone(packed), doubts)...)
				counts["packed"]++
			}
			packed = append(packed, doubts)
		}
	}
	for _, what := range []string{"refused", "fits", "packed"} {
		if counts[what] < 100 {
			t.Errorf("%d %s", counts[what], what)
		}
	}
}

// without is the works, but one, which must not be there.
func (x rig) without(l api.Luw) string {
	x.Helper()
	for _, w := range x.u.Works() {
		if w.Luw == l {
			x.Fatalf("%s is there", luw.Print(l))
		}
	}
	return x.works()
}

// The other records that may be refused are those of a work that asks for votes, of one that was logged as such, and of one that commits where it was begun, be it logged or not. Six works are in doubt, so that each of these is at the edge of what there is room for.
func TestWhatElseNeedsRoom(t *testing.T) {
	kid := func(x rig, l api.Luw) rec3 {
		x.attach(l, 2)
		x.put(l, 9, 1)
		return rec3{l, rec(3, l, l.Unit+1, 1, 2)}
	}
	own := func(x rig) rec3 { r := kid(x, x.begin()); r.rec.Body[9] = 0; return r } // no parent
	change := api.Change{Kind: 1, Key: 9, Val: 1}
	for _, c := range []struct {
		what string
		from int // the least room that is tried, in which all ahead of the edge fits
		do   func(x rig) (edge api.Rec, here []api.Rec, call func(fits bool))
	}{
		{"votes are asked for", 2150, func(x rig) (api.Rec, []api.Rec, func(bool)) {
			r := kid(x, x.given(1, 9))
			return r.rec, nil, func(fits bool) { x.on(pick(fits, "2:prepare", "2:backout 1:no"), 1, api.MsgPrepare, r.l) }
		}},
		{"a yes of one that asked", 2190, func(x rig) (api.Rec, []api.Rec, func(bool)) {
			r := kid(x, x.given(1, 9))
			x.on("2:prepare", 1, api.MsgPrepare, r.l)
			return rec(4, r.l, 2, 1, 2, change), []api.Rec{r.rec}, func(fits bool) {
				x.on(pick(fits, "1:yes", "2:backout 1:no"), 2, api.MsgYes, r.l)
			}
		}},
		{"a yes of one that asked, and whose kids are read only", 2190, func(x rig) (api.Rec, []api.Rec, func(bool)) {
			r := kid(x, x.given(1, 9))
			x.on("2:prepare", 1, api.MsgPrepare, r.l)
			return rec(4, r.l, 2, 0, change), []api.Rec{r.rec}, func(fits bool) {
				x.on(pick(fits, "1:yes", "1:no 1:forget"), 2, api.MsgReadOnly, r.l)
			}
		}},
		{"a commit", 2170, func(x rig) (api.Rec, []api.Rec, func(bool)) {
			l := x.begin()
			x.put(l, 9, 1)
			return rec(5, l, 4, 4, 0, 0, change), nil, func(fits bool) {
				x.sync("", l)
				x.events(pick(fits, "commit a7.65537, end a7.65537", "backout a7.65537"))
				x.image(pick(fits, "9=1 next 1", "next 1"))
			}
		}},
		{"a commit of one that asked", 2190, func(x rig) (api.Rec, []api.Rec, func(bool)) {
			r := own(x)
			x.sync("2:prepare", r.l)
			return rec(5, r.l, 4, 4, 0, 1, 2, change), []api.Rec{r.rec}, func(fits bool) {
				x.on(pick(fits, "2:commit", "2:backout"), 2, api.MsgYes, r.l)
				x.events(pick(fits, "commit a7.65537", "backout a7.65537"))
				x.image(pick(fits, "9=1 next 1", "next 1"))
			}
		}},
		{"a commit of one that asked, and whose kids are read only", 2190, func(x rig) (api.Rec, []api.Rec, func(bool)) {
			r := own(x)
			x.sync("2:prepare", r.l)
			return rec(5, r.l, 4, 4, 0, 0, change), []api.Rec{r.rec}, func(fits bool) {
				x.on("", 2, api.MsgReadOnly, r.l)
				x.events(pick(fits, "commit a7.65537, end a7.65537", "backout a7.65537, end a7.65537"))
				x.has(x.without(r.l))
			}
		}},
	} {
		t.Run(c.what, func(t *testing.T) {
			counts := map[bool]int{}
			for room := c.from; room < c.from+70; room++ {
				x := newRig(t, room, 1, 2)
				packed := []api.Rec{first, rec(2, 1, four(101)), rec(2, 2, four(102)), noImage}
				for n := range 6 {
					_, doubts := x.vote(n, "1:yes")
					packed = append(packed, doubts)
				}
				edge, here, call := c.do(x)
				free := room - min(x.tape.Len(), sizeOf(packed...)+sizeOf(here...))
				fits := free >= sizeOf(edge)+128*7+1024
				call(fits)
				counts[fits]++
			}
			if counts[true] == 0 || counts[false] == 0 {
				t.Errorf("refused and not: %v", counts)
			}
		})
	}
}

// rec3 is a work, and the record 3 of it.
type rec3 struct {
	l   api.Luw
	rec api.Rec
}

func pick(first bool, a, b string) string {
	if first {
		return a
	}
	return b
}

// inEveryState is a rig with works in every state that is logged, and with two peers that it remembers.
func inEveryState(t *testing.T, room int) (rig, []api.Rec) {
	t.Helper()
	x := newRig(t, room, 1, 2)
	var l [6]api.Luw
	for n := range l {
		l[n] = x.given(1, uint32(n+1))
		x.attach(l[n], 2)
		x.put(l[n], n, 9)
		x.on("2:prepare", 1, api.MsgPrepare, l[n])
		if n > 0 {
			x.on("1:yes", 2, api.MsgYes, l[n])
		}
	}
	x.byHand(l[2], true)
	x.byHand(l[3], false)
	x.on("2:commit", 1, api.MsgCommit, l[4])
	x.byHand(l[5], true)
	x.on("2:backout", 1, api.MsgBackout, l[5])
	x.begin() // Active ones are not logged
	return x, []api.Rec{
		rec(9, 3, 2, eight(9), 4, eight(9), 5, eight(9), 0, eight(1)),
		rec(3, l[0], 2, 1, 2),
		rec(4, l[1], 2, 1, 2, api.Change{Kind: 1, Key: 1, Val: 9}),
		rec(4, l[2], 2, 1, 2), rec(7, l[2], 1),
		rec(4, l[3], 2, 1, 2), rec(7, l[3], 0),
		rec(5, l[4], 4, 4, 2, 1, 2),
		rec(5, l[5], 5, 4, 2, 1, 2), rec(8, l[5]),
	}
}

// fill has the log grow till the records that are left to it would not fit any more.
func (x rig) fill(left int) {
	x.Helper()
	for x.tape.Room()-x.tape.Len() >= 12+left {
		x.churn(1)
	}
}

// A record that must be packs a log that has no room for it, and no other one.
func TestALogIsPackedWhenARecordHasNoRoom(t *testing.T) {
	for room := 4096; room < 4096+24; room++ {
		x, works := inEveryState(t, room)
		x.fill(0)
		before, free := x.records(), x.tape.Room()-x.tape.Len()
		if free >= 12 {
			t.Fatalf("%d bytes are free", free)
		}
		saved, _, _, _ := x.u.Peer(5)
		x.churn(1)
		list := []api.Rec{first, rec(2, 1, four(101)), rec(2, 2, four(102)), rec(2, 5, four(105))}
		list = append(list, works...)
		if saved == 0 {
			x.logged(0, append(list, rec(2, 5, four(105)))...) // it is remembered already when the record is written
		} else {
			x.logged(0, append(list, rec(2, 5, four(0)))...) // and still here
		}
		if before < len(list) {
			t.Errorf("the log had %d records", before)
		}
		same(t, "forced", x.tape.Forced(), x.tape.Len())
	}
}

// One that just fits needs no room to be made.
func TestALogIsNotPackedForARecordThatJustFits(t *testing.T) {
	x := newRig(t, 2048+7) // 15 bytes, and records of 12
	for x.tape.Len() < x.tape.Room() {
		before := x.records()
		x.churn(1)
		same(t, "records", x.records(), before+1)
	}
	x.churn(1)
	same(t, "records", x.records(), 4)
}

// Each record that must be is written as ever, be the log packed for it or not, and says the same.
func TestRecordsThatMustBe(t *testing.T) {
	l := func(n int) api.Luw { return api.Luw{Unit: 1, Life: 101, Seq: uint32(n + 1)} }
	for _, c := range []struct {
		what   string
		size   int
		call   func(x rig)
		has    string // of the work it is about, when the log is opened again
		behind []api.Rec
	}{
		{"a backout", 7 + 14, func(x rig) { x.on("2:backout 1:no", 2, api.MsgNo, l(0)) }, "b101.1 1 backed=backed 2", []api.Rec{rec(5, l(0), 5, 5, 2, 1, 2)}},
		{"a commit", 7 + 14, func(x rig) { x.on("2:commit", 1, api.MsgCommit, l(1)) }, "b101.2 1 committed=committed 2", []api.Rec{rec(5, l(1), 4, 4, 2, 1, 2)}},
		{"by hand", 7 + 10, func(x rig) { x.byHand(l(1), true) }, "b101.2 1 heurcommit 2", []api.Rec{rec(7, l(1), 1)}},
		{"damage", 7 + 9, func(x rig) { x.onMixed("2:done 1:forget!", 2, l(4)) }, "b101.5 1 committed=committed 2!", []api.Rec{rec(8, l(4))}},
		{"an end", 7 + 9, func(x rig) {
			x.on("2:done 1:forget", 2, api.MsgForget, l(4))
			x.fill(0)
			x.on("", 1, api.MsgDone, l(4))
		}, "", []api.Rec{rec(6, l(4))}},
	} {
		packs := 0
		for room := 4096; room < 4096+12; room++ {
			x, _ := inEveryState(t, room)
			x.fill(0)
			packed := x.tape.Room()-x.tape.Len() < c.size
			before := x.records()
			c.call(x)
			if packed {
				packs++
				before = x.records() - len(c.behind)
			}
			x.logged(before, c.behind...)
			image := imageText(x.u.Image())
			x.again(99)
			same(t, c.what, imageText(x.u.Image()), image)
			found := c.has == ""
			for _, w := range x.u.Works() {
				found = found || c.has == workText(w)
			}
			if !found {
				t.Errorf("%s: %s", c.what, x.works())
			}
		}
		if packs == 0 {
			t.Errorf("%s: never packed", c.what)
		}
	}
}
