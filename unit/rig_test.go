package unit_test

import (
	"slices"
	"strconv"
	"strings"
	"testing"

	"troth/api"
	"troth/compare"
	"troth/luw"
	"troth/oct"
	"troth/psh"
	"troth/res"
	"troth/tape"
	"troth/unit"
	"troth/wal"
)

const (
	active      = compare.Active
	pending     = compare.Pending
	doubt       = compare.Doubt
	committed   = compare.Committed
	backed      = compare.Backed
	heurCommit  = compare.HeurCommit
	heurBackout = compare.HeurBackout
)

// rig is the unit 0, log name 7, on a tape, and what its calls tell as texts.
type rig struct {
	*testing.T
	u    *unit.Unit
	tape *tape.Tape
}

func newTape(t *testing.T, room int) *tape.Tape {
	t.Helper()
	x, e := tape.New(room)
	ok(t, "tape.New", e)
	return x
}

func ok(t *testing.T, what string, e api.Errno) {
	t.Helper()
	if e != api.OK {
		t.Fatalf("%s: %v", what, e)
	}
}

func same[T comparable](t *testing.T, what string, got, want T) {
	t.Helper()
	if got != want {
		t.Fatalf("%s: %v; want %v", what, got, want)
	}
}

// newRig is a rig with sessions with peers that are open. Their log names are 100 and their numbers.
func newRig(t *testing.T, room int, peers ...int) rig {
	t.Helper()
	x := rig{T: t, tape: newTape(t, room)}
	var e api.Errno
	x.u, e = unit.New(0, x.tape, 7)
	ok(t, "New", e)
	x.open(peers...)
	return x
}

// open opens sessions, as peers that know the unit, if it knows them.
func (x rig) open(peers ...int) {
	x.Helper()
	for _, p := range peers {
		saved, _, _, _ := x.u.Peer(p)
		known := uint32(0)
		if saved != 0 {
			known = 7
		}
		_, e := x.u.Up(p)
		ok(x.T, "Up", e)
		outs, e := x.u.On(p, api.Msg{Kind: api.MsgNames, Mine: uint32(100 + p), Your: known})
		x.sends("", outs, e)
	}
}

// outsText is messages as texts: to whom, and the kind, with a mark of a mixed one; the names are held against that of the one work that is told of.
func outsText(outs []unit.Out) string {
	var list []string
	for _, out := range outs {
		s := strconv.Itoa(out.To) + ":" + psh.Name(out.Msg.Kind)
		if out.Msg.Mixed {
			s += "!"
		}
		list = append(list, s)
	}
	return strings.Join(list, " ")
}

// sends holds what a call wants to send against a text.
func (x rig) sends(want string, outs []unit.Out, e api.Errno) {
	x.Helper()
	if e != api.OK || outsText(outs) != want {
		x.Fatalf("sends %q, %v; want %q", outsText(outs), e, want)
	}
	for _, out := range outs {
		if !psh.Right(out.Msg) {
			x.Fatalf("sends what is not right: %v", out)
		}
	}
}

// refused holds a call to an error, and to have changed nothing.
func (x rig) refused(want api.Errno, call func() ([]unit.Out, api.Errno)) {
	x.Helper()
	before := x.all()
	outs, e := call()
	if e != want || len(outs) > 0 {
		x.Fatalf("sends %q, %v; want %v", outsText(outs), e, want)
	}
	same(x.T, "what is refused changes", x.all(), before)
}

// all is all that a rig shows.
func (x rig) all() string {
	s := []string{x.works(), imageText(x.u.Image()), oct.Hex(x.tape.Bytes()), strconv.Itoa(x.tape.Forced())}
	for p := range api.MaxUnits {
		s = append(s, x.peer(p))
	}
	return strings.Join(s, "|")
}

// on hands a message in about a work.
func (x rig) on(want string, from, kind int, l api.Luw) {
	x.Helper()
	outs, e := x.u.On(from, api.Msg{Kind: kind, Luw: l})
	x.sends(want, outs, e)
	for _, out := range outs {
		if out.Msg.Luw != l {
			x.Fatalf("sends %v", out)
		}
	}
}

// onMixed hands a forget in of a work with damage.
func (x rig) onMixed(want string, from int, l api.Luw) {
	x.Helper()
	outs, e := x.u.On(from, api.Msg{Kind: api.MsgForget, Luw: l, Mixed: true})
	x.sends(want, outs, e)
}

func (x rig) onRefused(want api.Errno, from, kind int, l api.Luw) {
	x.Helper()
	x.refused(want, func() ([]unit.Out, api.Errno) { return x.u.On(from, api.Msg{Kind: kind, Luw: l}) })
}

func (x rig) begin() api.Luw {
	x.Helper()
	l, e := x.u.Begin()
	ok(x.T, "Begin", e)
	return l
}

// given is a work that came from a peer.
func (x rig) given(from int, seq uint32) api.Luw {
	x.Helper()
	l := api.Luw{Unit: from, Life: uint32(100 + from), Seq: seq}
	x.on("", from, api.MsgAttach, l)
	return l
}

func (x rig) attach(l api.Luw, peers ...int) {
	x.Helper()
	for _, p := range peers {
		outs, e := x.u.Attach(l, p)
		x.sends(strconv.Itoa(p)+":attach", outs, e)
	}
}

func (x rig) put(l api.Luw, key int, val uint64) {
	x.Helper()
	_, e := x.u.Change(l, api.Change{Kind: 1, Key: key, Val: val})
	ok(x.T, "Change", e)
}

func (x rig) sync(want string, l api.Luw) {
	x.Helper()
	outs, e := x.u.Sync(l)
	x.sends(want, outs, e)
}

func (x rig) tick(want string) {
	x.Helper()
	outs, e := x.u.Tick()
	x.sends(want, outs, e)
}

func (x rig) byHand(l api.Luw, commit bool) {
	x.Helper()
	outs, e := x.u.ByHand(l, commit)
	x.sends("", outs, e)
}

func (x rig) down(want string, p int) {
	x.Helper()
	outs, e := x.u.Down(p)
	x.sends(want, outs, e)
}

// stranger has a peer found to be bad, by another name than it had.
func (x rig) stranger(want string, p int) {
	x.Helper()
	outs, e := x.u.On(p, api.Msg{Kind: api.MsgNames, Mine: 999})
	x.sends(want, outs, e)
}

func (x rig) reset(want string, p int) {
	x.Helper()
	outs, e := x.u.Reset(p)
	x.sends(want, outs, e)
}

// events holds what happened since it was held last against a text: of each event its name, the work's, and the peer, if there is one.
func (x rig) events(want string) {
	x.Helper()
	same(x.T, "events", eventsText(x.u.Events()), want)
}

func eventsText(list []unit.Event) string {
	names := []string{"none", "commit", "backout", "byhand", "mixed", "end", "names", "cold"}
	var s []string
	for _, e := range list {
		text := names[e.Kind]
		if e.Luw != (api.Luw{}) {
			text += " " + luw.Print(e.Luw)
		}
		if e.Kind == unit.EvMixed || e.Kind >= unit.EvNames {
			text += " " + strconv.Itoa(e.Peer)
		} else if e.Peer != 0 {
			text += " PEER"
		}
		s = append(s, text)
	}
	return strings.Join(s, ", ")
}

// works is the works as texts.
func (x rig) works() string {
	var s []string
	for _, w := range x.u.Works() {
		s = append(s, workText(w))
	}
	return strings.Join(s, ", ")
}

// workText is a work's name, parent, state, outcome and kids, and a mark of a mixed one.
func workText(w unit.Info) string {
	text := luw.Print(w.Luw) + " " + strconv.Itoa(w.Parent) + " " + compare.Name(w.State)
	if w.Outcome != 0 {
		text += "=" + compare.Name(w.Outcome)
	}
	for _, k := range w.Kids {
		text += " " + strconv.Itoa(k)
	}
	if w.Mixed {
		text += "!"
	}
	return text
}

func (x rig) has(want string) {
	x.Helper()
	same(x.T, "works", x.works(), want)
}

func (x rig) peer(p int) string {
	name, up, open, bad := x.u.Peer(p)
	s := strconv.FormatUint(uint64(name), 10)
	for i, is := range []bool{up, open, bad} {
		if is {
			s += " " + []string{"up", "open", "bad"}[i]
		}
	}
	return s
}

func (x rig) knows(p int, want string) {
	x.Helper()
	same(x.T, "peer", x.peer(p), want)
}

func imageText(m res.Image) string {
	var s []string
	for _, p := range m.Pairs {
		s = append(s, strconv.Itoa(p.Key)+"="+strconv.FormatUint(p.Val, 10))
	}
	for _, val := range m.Items {
		s = append(s, strconv.FormatUint(val, 10))
	}
	return strings.Join(append(s, "next "+strconv.Itoa(m.Next)), " ")
}

func (x rig) image(want string) {
	x.Helper()
	same(x.T, "image", imageText(x.u.Image()), want)
}

// logged holds the records of the log behind the first ones against what they should be.
func (x rig) logged(skip int, want ...api.Rec) {
	x.Helper()
	list, size := wal.Read(x.tape.Bytes())
	if size != x.tape.Len() || len(list) < skip || recsText(list[skip:]) != recsText(want) {
		x.Fatalf("the log has\n%s\nwant, behind %d,\n%s", recsText(list), skip, recsText(want))
	}
}

// records is how many records the log has.
func (x rig) records() int {
	list, _ := wal.Read(x.tape.Bytes())
	return len(list)
}

func recsText(list []api.Rec) string {
	var s []string
	for _, r := range list {
		s = append(s, strconv.Itoa(r.Kind)+" "+oct.Hex(r.Body))
	}
	return strings.Join(s, "\n")
}

// again opens the unit anew on what a crash leaves.
func (x *rig) again(keep int) {
	x.Helper()
	ok(x.T, "Crash", x.tape.Crash(keep))
	var e api.Errno
	x.u, e = unit.Open(0, x.tape)
	ok(x.T, "Open", e)
}

// Records by another hand than the unit's. What stands in a body is numbers of one byte, and these:

type four uint32

type eight uint64

// rec is a record of parts.
func rec(kind int, parts ...any) api.Rec {
	var b []byte
	for _, p := range parts {
		switch v := p.(type) {
		case int:
			b = append(b, byte(v))
		case four:
			b = append(b, byte(v>>24), byte(v>>16), byte(v>>8), byte(v))
		case eight:
			for i := 56; i >= 0; i -= 8 {
				b = append(b, byte(v>>i))
			}
		case api.Luw:
			b = append(b, rec(0, v.Unit, four(v.Life), four(v.Seq)).Body...)
		case api.Change:
			b = append(b, rec(0, v.Kind, eight(v.Key), eight(v.Val)).Body...)
		case []byte:
			b = append(b, v...)
		}
	}
	return api.Rec{Kind: kind, Body: b}
}

var (
	first   = rec(1, four(7), four(1))
	noImage = rec(9, 0, 0, eight(1))
)

// written is a tape with records, forced.
func written(t *testing.T, room int, list ...api.Rec) *tape.Tape {
	t.Helper()
	x := newTape(t, room)
	l, _, e := wal.Open(x)
	ok(t, "wal.Open", e)
	ok(t, "Swap", l.Swap(list))
	return x
}

// opened is the unit 0 on a log of records behind its first one.
func opened(t *testing.T, list ...api.Rec) rig {
	t.Helper()
	x := rig{T: t, tape: written(t, 4096, slices.Concat([]api.Rec{first}, list)...)}
	var e api.Errno
	x.u, e = unit.Open(0, x.tape)
	ok(t, "Open", e)
	return x
}
