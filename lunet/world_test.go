package lunet_test

import (
	"bytes"
	"math/rand"
	"slices"
	"testing"

	"troth/api"
	"troth/compare"
	"troth/lunet"
	"troth/luw"
	"troth/psh"
	"troth/unit"
)

// play is a world that goes at random, and what a test has to remember of it.
type play struct {
	rig
	r      *rand.Rand
	cold   bool // units may begin cold
	hands  map[api.Luw]map[int]bool
	sent   [api.MaxUnits][api.MaxUnits][][]byte // what stands on each row, as a test that counts it knows it
	images [api.MaxUnits]string                 // of each unit, when it crashed
	counts map[string]int
}

func newPlay(t *testing.T, seed int64, cold bool, counts map[string]int) *play {
	r := rand.New(rand.NewSource(seed))
	return &play{
		rig: newRig(t, 2+r.Intn(4), 2048+r.Intn(2)*2048), r: r, cold: cold, counts: counts,
		hands: map[api.Luw]map[int]bool{},
	}
}

// work is the place of a name among the works that were begun.
func (x *play) work(l api.Luw) int { return slices.Index(x.w.Luws(), l) }

// step is what is done next: most often something that can be.
func (x *play) step() lunet.Step {
	s := lunet.Step{A: x.r.Intn(x.n), B: x.r.Intn(x.n), N: x.r.Intn(60), W: x.r.Intn(12) - 2, Commit: x.r.Intn(2) == 0}
	if x.r.Intn(50) == 0 {
		s.Kind = x.r.Intn(lunet.Cold + 2)
		return x.allowed(s)
	}
	for a := range x.n {
		if x.w.Unit(a) == nil && x.r.Intn(10) == 0 {
			return x.allowed(lunet.Step{Kind: lunet.Restart + x.r.Intn(2), A: a})
		}
		for b := range a {
			if !x.w.Linked(a, b) && x.w.Unit(a) != nil && x.w.Unit(b) != nil && x.r.Intn(6) == 0 {
				return step(lunet.Link, a, b)
			}
		}
	}
	if rows := x.rows(); len(rows) > 0 && x.r.Intn(2) == 0 {
		p := rows[x.r.Intn(len(rows))]
		return step(lunet.Serve, p[0], p[1])
	}
	if x.w.Unit(s.A) != nil && x.r.Intn(4) > 0 {
		return x.stepOf(s)
	}
	kinds := []int{lunet.Tick, lunet.Tick, lunet.Tick, lunet.Begin, lunet.Cut, lunet.Crash, lunet.Reset, lunet.Link}
	s.Kind = kinds[x.r.Intn(len(kinds))]
	return s
}

// allowed is a step that begins nobody cold, where that may not be.
func (x *play) allowed(s lunet.Step) lunet.Step {
	if s.Kind == lunet.Cold && !x.cold {
		s.Kind = lunet.Restart
	}
	return s
}

// rows is the ways on which there are messages.
func (x *play) rows() [][2]int {
	var list [][2]int
	for a := range x.n {
		for b := range x.n {
			if len(x.w.Row(a, b)) > 0 {
				list = append(list, [2]int{a, b})
			}
		}
	}
	return list
}

// stepOf is a step of a unit that is up.
func (x *play) stepOf(s lunet.Step) lunet.Step {
	u := x.w.Unit(s.A)
	for b := range x.n {
		if _, _, _, bad := u.Peer(b); bad && x.r.Intn(6) == 0 {
			return step(lunet.Reset, s.A, b)
		}
	}
	works := u.Works()
	if len(works) == 0 || len(works) < 3 && x.r.Intn(3) == 0 {
		return step(lunet.Begin, s.A)
	}
	w := works[x.r.Intn(len(works))]
	if at := slices.IndexFunc(works, func(w unit.Info) bool { return w.State == compare.Doubt }); at >= 0 && x.r.Intn(3) == 0 {
		w = works[at]
	}
	s.W = x.work(w.Luw)
	s.Kind = lunet.Tick
	switch n := x.r.Intn(40); {
	case w.State == compare.Doubt && n < 20:
		s.Kind = lunet.ByHand
	case w.State != compare.Active:
	case n < 15:
		s.Kind = lunet.Attach
	case n < 32:
		s.Kind = lunet.Change
		s.C = api.Change{Kind: x.r.Intn(5), Key: x.r.Intn(6), Val: uint64(x.r.Intn(100))}
	case n < 39:
		s.Kind = lunet.Sync
	default:
		s.Kind = lunet.Backout
	}
	return s
}

// act does a step, and holds what came of it against what may.
func (x *play) act(s lunet.Step) {
	x.Helper()
	before, images := "", x.imagesUp()
	looks := s.Kind != lunet.Serve && x.r.Intn(4) == 0
	if looks {
		before = x.all()
	}
	waiting := x.hanging()
	_, e := x.w.Do(s)
	if looks && e != api.OK { // P20.3
		same(x.T, "what is refused changes", x.all(), before)
		x.counts["refused"]++
	}
	switch {
	case s.Kind == lunet.Crash && e == api.OK:
		x.images[s.A] = images[s.A]
	case s.Kind == lunet.Restart && e == api.OK:
		same(x.T, "image behind a crash", imageText(x.w.Unit(s.A).Image()), x.images[s.A]) // P20.5
		x.counts["restarted"]++
	case s.Kind == lunet.Restart && e != api.ErrState && e != api.ErrArg:
		x.Fatalf("Restart: %v", e)
	case s.Kind == lunet.ByHand && e == api.OK:
		x.decided(x.w.Luws()[s.W], s.A, s.Commit)
	}
	x.inOrder(s, e)
	x.still(s, waiting)
}

func (x *play) imagesUp() [api.MaxUnits]string {
	var list [api.MaxUnits]string
	for a := range x.n {
		if x.w.Unit(a) != nil {
			list[a] = imageText(x.w.Unit(a).Image())
		}
	}
	return list
}

func (x *play) decided(l api.Luw, a int, commit bool) {
	if x.hands[l] == nil {
		x.hands[l] = map[int]bool{}
	}
	x.hands[l][a] = commit
	x.counts["by hand"]++
}

// inOrder holds rows against what stood on them: a message more stands behind, one that was served is off the front, or all are lost with the link. P20.4.
func (x *play) inOrder(s lunet.Step, e api.Errno) {
	x.Helper()
	for a := range x.n {
		for b := range x.n {
			was, is := x.sent[a][b], x.w.Row(a, b)
			if s.Kind == lunet.Serve && s.A == a && s.B == b && len(was) > 0 {
				was = was[1:]
			}
			x.sent[a][b] = is
			switch {
			case !x.w.Linked(a, b):
				if len(is) > 0 {
					x.Fatalf("there are messages from %d to %d, which are not linked", a, b)
				}
				continue
			case len(is) < len(was), !slices.EqualFunc(was, is[:len(was)], bytes.Equal):
				x.Fatalf("%+v, %v: the row from %d to %d is %v, and was %v", s, e, a, b, is, was)
			}
			x.mayBe(a, b, is[len(was):])
		}
	}
}

// mayBe holds messages that a unit wants to send against what it knows of the other one: no work goes to a stranger. P8.
func (x *play) mayBe(a, b int, list [][]byte) {
	x.Helper()
	_, up, open, bad := x.w.Unit(a).Peer(b)
	if !up || open && bad {
		x.Fatalf("%d of %d: %s", a, b, x.peer(a, b))
	}
	for _, m := range list {
		if v, e := psh.Read(m); e != api.OK || bad && v.Kind != api.MsgNames && v.Kind != api.MsgRefuse {
			x.Fatalf("%v, %v is sent from %d to the stranger %d", v, e, a, b)
		}
		x.counts["messages"]++
	}
}

// hanging is, by unit and name, the works that have a stranger as their parent, and are in doubt or were decided by hand.
func (x *play) hanging() map[int][]unit.Info {
	list := map[int][]unit.Info{}
	for a := range x.n {
		for _, w := range x.w.Unit(a).Works() {
			if _, _, _, bad := x.w.Unit(a).Peer(w.Parent); bad {
				list[a] = append(list[a], w)
			}
		}
	}
	return list
}

// still holds works that hang on a stranger against what they were: but for a decision by hand and a reset nothing decides them. P8.
func (x *play) still(s lunet.Step, waiting map[int][]unit.Info) {
	x.Helper()
	for a, list := range waiting {
		if x.w.Unit(a) == nil || s.A == a && (s.Kind == lunet.ByHand || s.Kind == lunet.Reset) {
			continue
		}
		now := x.w.Unit(a).Works()
		for _, w := range list {
			x.counts["hanging"]++
			if !slices.ContainsFunc(now, func(n unit.Info) bool {
				return n.Luw == w.Luw && n.State == w.State && n.Outcome == w.Outcome && n.Parent == w.Parent
			}) {
				x.Fatalf("%+v changes the work %s of %d, which hangs on a stranger", s, luw.Print(w.Luw), a)
			}
		}
	}
}

// toTheEnd has all come to its end, and tells within how many rounds it did: all are up, linked, reset where they are strangers, and then there are rounds of messages and ticks.
func (x *play) toTheEnd() int {
	x.Helper()
	for a := range x.n {
		x.act(step(lunet.Restart, a))
	}
	for i, l := range x.w.Luws() { // works that nobody asks for come to no end
		x.act(step(lunet.Sync, l.Unit, i))
	}
	x.acquaint()
	rounds := 0
	for ; rounds < 40 && x.anyLeft(); rounds++ {
		x.round()
	}
	return rounds
}

// acquaint links all units, and resets them where they are strangers.
func (x *play) acquaint() {
	x.Helper()
	for a := range x.n {
		for b := range a {
			for try := 0; !x.acquainted(a, b); try++ {
				if try == 5 {
					x.Fatalf("%d and %d are strangers still: %s, %s", a, b, x.peer(a, b), x.peer(b, a))
				}
				x.act(step(lunet.Reset, a, b))
				x.act(step(lunet.Reset, b, a))
				x.act(step(lunet.Cut, a, b))
				x.act(step(lunet.Link, a, b))
				for len(x.w.Row(a, b))+len(x.w.Row(b, a)) > 0 {
					x.act(step(lunet.Serve, a, b))
					x.act(step(lunet.Serve, b, a))
				}
			}
		}
	}
}

func (x *play) acquainted(a, b int) bool {
	_, _, one, _ := x.w.Unit(a).Peer(b)
	_, _, other, _ := x.w.Unit(b).Peer(a)
	return one && other
}

func (x *play) anyLeft() bool {
	for a := range x.n {
		if len(x.w.Unit(a).Works()) > 0 {
			return true
		}
	}
	return false
}

// round serves all that is on its way, and what comes of that, and then ticks.
func (x *play) round() {
	x.Helper()
	for len(x.rows()) > 0 {
		for _, p := range x.rows() {
			x.act(step(lunet.Serve, p[0], p[1]))
		}
	}
	for a := range x.n {
		x.act(step(lunet.Tick, a))
	}
}

// noLock holds all units to hold no lock: a work may change every key.
func (x *play) noLock() {
	x.Helper()
	for a := range x.n {
		x.do(lunet.Begin, a)
		w := len(x.w.Luws()) - 1
		for key := range api.MaxKeys {
			x.put(a, w, key, 1)
		}
		x.do(lunet.Backout, a, w)
	}
}

// fate is what came of a work.
type fate struct{ commits, backouts, hands, mixed []lunet.Event }

func fateOf(log []lunet.Event, l api.Luw) fate {
	return fate{events(log, unit.EvCommit, l), events(log, unit.EvBackout, l), events(log, unit.EvByHand, l), events(log, unit.EvMixed, l)}
}

// never one and the other: P6.
func (x *play) neverBoth(l api.Luw, f fate) {
	x.Helper()
	if len(f.commits) > 0 && len(f.backouts) > 0 {
		x.Fatalf("%s is committed at %d, and backed out at %d", luw.Print(l), f.commits[0].Unit, f.backouts[0].Unit)
	}
	if len(f.commits) > 0 && (f.commits[0].Unit != l.Unit || f.commits[0].Name != l.Life) {
		x.Fatalf("%s is committed first at %d", luw.Print(l), f.commits[0].Unit)
	}
	if len(f.hands) == 0 && len(f.mixed) > 0 {
		x.Fatalf("%s is mixed, though nobody decided by hand", luw.Print(l))
	}
}

// reported holds decisions by hand that were not the outcome to be reported, where they were taken, and where the work was begun: P7. Nobody begins cold.
func (x *play) reported(l api.Luw, f fate) {
	x.Helper()
	for a, commit := range x.hands[l] {
		is := func(at int, peer func(int) bool) bool {
			return slices.ContainsFunc(f.mixed, func(e lunet.Event) bool { return e.Unit == at && peer(e.E.Peer) })
		}
		here := is(a, func(p int) bool { return p == a })
		there := is(l.Unit, func(p int) bool { return p != l.Unit })
		if damage := commit != (len(f.commits) > 0); here != damage || damage && !there {
			x.Fatalf("%s: by hand %v at %d, %d commits; reported there %v, at its beginning %v", luw.Print(l), commit, a, len(f.commits), here, there)
		} else if damage {
			x.counts["damage"]++
		}
	}
	if len(x.hands[l]) == 0 && len(f.mixed) > 0 {
		x.Fatalf("%s is mixed", luw.Print(l))
	}
}

func TestWorldsAtRandom(t *testing.T) {
	counts := map[string]int{}
	for seed := range int64(1000) {
		x := newPlay(t, seed, seed%2 == 0, counts)
		for range 150 + x.r.Intn(250) {
			x.act(x.step())
		}
		if rounds := x.toTheEnd(); rounds > 12 {
			x.Fatalf("seed %d: after %d rounds works are left", seed, rounds)
		}
		for _, l := range x.w.Luws() {
			f := fateOf(x.w.Log(), l)
			x.neverBoth(l, f)
			if !x.cold {
				x.reported(l, f)
			}
			if len(f.commits) > 1 {
				counts["committed at many"]++
			}
			if len(f.backouts) > 1 {
				counts["backed out at many"]++
			}
		}
		x.noLock()
	}
	for what, least := range map[string]int{
		"refused": 1000, "restarted": 1000, "by hand": 50, "messages": 10000, "hanging": 100, "damage": 20, "committed at many": 500, "backed out at many": 500,
	} {
		if counts[what] < least {
			t.Errorf("%s: %d", what, counts[what])
		}
	}
}
