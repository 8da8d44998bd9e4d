package unit_test

import (
	"math/rand"
	"slices"
	"strings"
	"testing"

	"troth/api"
	"troth/tape"
	"troth/unit"
)

// shadow is what a test knows of a unit that goes at random: what each work did, and what is done.
type shadow struct {
	rig
	r      *rand.Rand
	did    map[api.Luw][]api.Change
	doomed map[api.Luw]int // works with a kid that said no, or failed
	pairs  map[int]uint64
	items  []uint64
	next   int
	counts map[string]int
}

func newShadow(t *testing.T, seed int64, counts map[string]int) *shadow {
	r := rand.New(rand.NewSource(seed))
	return &shadow{
		rig: newRig(t, 2048+r.Intn(1024), 1, 2, 3), r: r, counts: counts,
		did: map[api.Luw][]api.Change{}, doomed: map[api.Luw]int{}, pairs: map[int]uint64{}, next: 1,
	}
}

// done does a work's changes.
func (x *shadow) done(l api.Luw) {
	for _, c := range x.did[l] {
		switch c.Kind {
		case 1:
			x.pairs[c.Key] = c.Val
		case 2:
			delete(x.pairs, c.Key)
		case 3:
			x.items = append(x.items, c.Val)
			x.next++
		case 4:
			x.items = x.items[1:]
		}
	}
}

// take bears what happened in a call, and holds the image against what is done: what a work did is done when it is committed, and never else.
func (x *shadow) take(byHandCommit bool) {
	x.Helper()
	for _, e := range x.u.Events() {
		if e.Kind == unit.EvCommit || e.Kind == unit.EvByHand && byHandCommit {
			if e.Kind == unit.EvCommit && x.doomed[e.Luw] > 0 {
				x.Fatalf("%v is committed, though a kid said no or failed", e.Luw)
			}
			x.done(e.Luw)
			x.counts["done"]++
		}
		switch e.Kind {
		case unit.EvCommit, unit.EvBackout, unit.EvByHand:
			delete(x.did, e.Luw)
		}
	}
	m := x.u.Image()
	for _, p := range m.Pairs {
		if val, there := x.pairs[p.Key]; !there || val != p.Val {
			x.Fatalf("the key %d has %d; want %d, %v", p.Key, p.Val, val, there)
		}
	}
	if len(m.Pairs) != len(x.pairs) || !slices.Equal(m.Items, x.items) || m.Next != x.next {
		x.Fatalf("image %v; want %v, %v, %d", m, x.pairs, x.items, x.next)
	}
	for l := range x.doomed {
		if !slices.ContainsFunc(x.u.Works(), func(w unit.Info) bool { return w.Luw == l }) {
			delete(x.doomed, l)
		}
	}
}

// any is a name of a work that is there, or might be.
func (x *shadow) any() api.Luw {
	if works := x.u.Works(); len(works) > 0 && x.r.Intn(8) > 0 {
		return works[x.r.Intn(len(works))].Luw
	}
	return api.Luw{Unit: x.r.Intn(4), Life: 7, Seq: uint32(1 + x.r.Intn(3))}
}

// info is what is known of a work.
func (x *shadow) info(l api.Luw) unit.Info {
	for _, w := range x.u.Works() {
		if w.Luw == l {
			return w
		}
	}
	return unit.Info{}
}

// message hands a message in.
func (x *shadow) message() {
	l, from := x.any(), 1+x.r.Intn(3)
	w := x.info(l)
	m := api.Msg{Kind: 1 + x.r.Intn(11), Luw: l}
	switch {
	case len(w.Kids) > 0 && w.State == pending && x.r.Intn(3) > 0:
		from, m.Kind = w.Kids[x.r.Intn(len(w.Kids))], []int{api.MsgYes, api.MsgYes, api.MsgYes, api.MsgReadOnly, api.MsgNo}[x.r.Intn(5)]
	case w.Parent > 0 && w.State == active && x.r.Intn(3) > 0:
		from, m.Kind = w.Parent, api.MsgPrepare
	case w.Parent > 0 && w.State == doubt && x.r.Intn(3) > 0:
		from, m.Kind = w.Parent, []int{api.MsgCommit, api.MsgBackout, api.MsgAsk}[x.r.Intn(3)]
	case len(w.Kids) > 0 && w.Outcome != 0 && x.r.Intn(2) > 0:
		from, m.Kind = w.Kids[x.r.Intn(len(w.Kids))], api.MsgForget
	}
	if m.Kind == api.MsgForget {
		m.Mixed = x.r.Intn(4) == 0
	}
	_, e := x.u.On(from, m)
	if e == api.OK && m.Kind == api.MsgNo && (w.State == active || w.State == pending) && slices.Contains(w.Kids, from) {
		x.doomed[l]++
		x.counts["doomed"]++
	}
	if e == api.OK && m.Kind == api.MsgAttach && w.Luw != l {
		delete(x.did, l) // it may be another work of that name
	}
	x.counts["messages"]++
}

// fail has a peer go, or be a stranger.
func (x *shadow) fail() {
	p := 1 + x.r.Intn(3)
	for _, w := range x.u.Works() {
		if w.State == active && (w.Parent == p || slices.Contains(w.Kids, p)) {
			x.doomed[w.Luw]++
		}
	}
	if x.r.Intn(2) == 0 {
		x.u.On(p, api.Msg{Kind: api.MsgNames, Mine: 999})
		x.u.Reset(p)
	}
	x.u.Down(p)
	saved, _, _, _ := x.u.Peer(p)
	x.u.Up(p)
	x.u.On(p, api.Msg{Kind: api.MsgNames, Mine: max(saved, 100), Your: 7})
}

// verb does something to a work, and tells whether that was a decision by hand to commit.
func (x *shadow) verb() bool {
	l := x.any()
	switch x.r.Intn(12) {
	case 0:
		x.u.Begin()
	case 1, 2:
		x.u.Attach(l, 1+x.r.Intn(3))
	case 3:
		x.u.Sync(l)
	case 4:
		if x.r.Intn(3) == 0 {
			x.u.Backout(l)
		}
	case 5:
		commit := x.r.Intn(2) == 0
		if x.r.Intn(3) == 0 {
			x.u.ByHand(l, commit)
			return commit
		}
	case 6:
		x.u.Tick()
	default:
		c := api.Change{Kind: x.r.Intn(5), Key: x.r.Intn(4), Val: x.r.Uint64()}
		if _, e := x.u.Change(l, c); e == api.OK && c.Kind > 0 {
			x.did[l] = append(x.did[l], c)
		}
	}
	return false
}

// cut is a tape as a crash leaves it that keeps so many bytes of what was not forced.
func cut(t *testing.T, x *tape.Tape, keep int) *tape.Tape {
	t.Helper()
	y := newTape(t, x.Room())
	b := x.Bytes()
	ok(t, "Append", y.Append(b[:x.Forced()]))
	ok(t, "Force", y.Force())
	ok(t, "Append", y.Append(b[x.Forced():]))
	ok(t, "Crash", y.Crash(keep))
	return y
}

// loggedWorks is what is known of the works that come through a crash, but their kids, of which more may stand in the log than have not forgotten.
func loggedWorks(u *unit.Unit) []string {
	var list []string
	for _, w := range u.Works() {
		if w.State == active {
			continue
		}
		if w.State == pending {
			w.State, w.Outcome = backed, backed
		}
		w.Kids = nil
		list = append(list, workText(w))
	}
	return list
}

// through opens a unit on what a crash leaves of its log, and holds it against what it was: P19.6.
func (x *shadow) through(keep int) {
	x.Helper()
	y := cut(x.T, x.tape, keep)
	u, e := unit.Open(0, y)
	if e != api.OK {
		x.Fatalf("Open: %v", e)
	}
	same(x.T, "image", imageText(u.Image()), imageText(x.u.Image()))
	was, is := loggedWorks(x.u), loggedWorks(u)
	for _, w := range was {
		if !slices.Contains(is, w) {
			x.Fatalf("%s is lost: %s", w, strings.Join(is, ", "))
		}
	}
	if keep >= x.tape.Len() && len(is) != len(was) { // of what was not forced nothing is lost, not even an end
		x.Fatalf("works %s; want %s", is, was)
	}
	again, e := unit.Open(0, y)
	if e != api.OK || rigOf(again).works() != rigOf(u).works() || imageText(again.Image()) != imageText(u.Image()) {
		x.Fatalf("opened once more: %v", e)
	}
	for p := range api.MaxUnits {
		one, _, _, _ := x.u.Peer(p)
		other, up, open, bad := u.Peer(p)
		if one != other || up || open || bad {
			x.Fatalf("the peer %d: %d, %v, %v, %v; want %d", p, other, up, open, bad, one)
		}
	}
}

func rigOf(u *unit.Unit) rig { return rig{u: u} }

func TestAtRandom(t *testing.T) {
	counts := map[string]int{}
	for seed := range int64(400) {
		x := newShadow(t, seed, counts)
		for range 250 {
			byHandCommit := false
			switch n := x.r.Intn(40); {
			case n < 20:
				x.message()
			case n < 39:
				byHandCommit = x.verb()
			default:
				x.fail()
			}
			x.take(byHandCommit)
			if x.r.Intn(4) == 0 {
				x.through(x.r.Intn(40))
				x.through(x.tape.Len())
			}
		}
	}
	if counts["done"] < 500 || counts["doomed"] < 100 {
		t.Errorf("%v", counts)
	}
}

// P1
func TestNoCallPanics(t *testing.T) {
	r := rand.New(rand.NewSource(191))
	number := func() int {
		if r.Intn(12) == 0 {
			return int(r.Uint64())
		}
		return r.Intn(9) - 1
	}
	name := func() api.Luw {
		return api.Luw{Unit: number(), Life: uint32(7 * r.Intn(2)), Seq: uint32(65536*r.Intn(2) + r.Intn(4))}
	}
	for range 200 {
		x := newRig(t, 2048, 1, 2)
		for range 300 {
			l, p := name(), number()
			if works := x.u.Works(); len(works) > 0 && r.Intn(3) > 0 {
				l = works[r.Intn(len(works))].Luw
			}
			switch r.Intn(12) {
			case 0:
				x.u.Up(p)
			case 1:
				x.u.Down(p)
			case 2, 3, 4:
				x.u.On(p, api.Msg{Kind: r.Intn(15), Luw: l, Mixed: r.Intn(8) == 0})
			case 5:
				x.u.On(p, api.Msg{Kind: api.MsgNames + r.Intn(2), Mine: uint32(r.Intn(3)), Your: uint32(7 * r.Intn(2))})
			case 6:
				x.u.Begin()
			case 7:
				x.u.Attach(l, p)
			case 8:
				x.u.Change(l, api.Change{Kind: number(), Key: number(), Val: r.Uint64()})
			case 9:
				x.u.Sync(l)
				x.u.Tick()
			case 10:
				x.u.ByHand(l, r.Intn(2) == 0)
				x.u.Reset(p)
			case 11:
				b := x.tape.Bytes()
				ok(t, "Swap", x.tape.Swap(b[:r.Intn(len(b)+1)]))
				if u, e := unit.Open(0, x.tape); e == api.OK {
					x.u = u
				}
			}
			x.u.Peer(p)
			x.u.Image()
			if r.Intn(9) == 0 {
				x.u.Events()
			}
		}
	}
}

// Open of bytes that were turned is an error, or a unit that can be opened again.
func TestOpenOfWhatWasTurned(t *testing.T) {
	r := rand.New(rand.NewSource(192))
	_, works := inEveryState(t, 4096)
	list := append([]api.Rec{first, rec(2, 1, four(101))}, works...)
	opens := 0
	for range 20000 {
		turned := slices.Clone(list)
		for range 1 + r.Intn(2) {
			at := r.Intn(len(turned))
			body := slices.Clone(turned[at].Body)
			body[r.Intn(len(body))] = byte(r.Intn(10))
			turned[at].Body = body
		}
		if r.Intn(3) == 0 {
			a, b := 1+r.Intn(len(turned)-1), 1+r.Intn(len(turned)-1)
			turned[a], turned[b] = turned[b], turned[a]
		}
		y := written(t, 4096, turned...)
		before := y.Bytes()
		u, e := unit.Open(0, y)
		if e != api.OK {
			if u != nil || e != api.ErrForm || string(y.Bytes()) != string(before) {
				t.Fatalf("Open: %v", e)
			}
			continue
		}
		opens++
		again, e := unit.Open(0, y)
		if e != api.OK || rigOf(u).works() != rigOf(again).works() || imageText(u.Image()) != imageText(again.Image()) {
			t.Fatalf("opened again: %v\n%s\n%s\n%s", e, recsText(turned), rigOf(u).works(), rigOf(again).works())
		}
	}
	if opens < 1000 {
		t.Errorf("%d opened", opens)
	}
}
