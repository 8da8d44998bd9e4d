package lunet_test

import (
	"strconv"
	"strings"
	"testing"

	"troth/api"
	"troth/compare"
	"troth/lunet"
	"troth/luw"
	"troth/oct"
	"troth/psh"
	"troth/res"
)

// rig is a world, and what it tells as texts.
type rig struct {
	*testing.T
	w *lunet.World
	n int
}

func newRig(t *testing.T, n, room int) rig {
	t.Helper()
	w, e := lunet.New(n, room)
	if e != api.OK || w == nil {
		t.Fatalf("New: %v", e)
	}
	return rig{t, w, n}
}

func same[T comparable](t *testing.T, what string, got, want T) {
	t.Helper()
	if got != want {
		t.Fatalf("%s: %v; want %v", what, got, want)
	}
}

// step is a step of a kind, with the numbers that the kind has, in the order of the document's table.
func step(kind int, numbers ...int) lunet.Step {
	s := lunet.Step{Kind: kind}
	places := []*int{&s.A, &s.B}
	switch kind {
	case lunet.Attach:
		places = []*int{&s.A, &s.W, &s.B}
	case lunet.Change, lunet.Sync, lunet.Backout, lunet.ByHand:
		places = []*int{&s.A, &s.W}
	case lunet.Crash:
		places = []*int{&s.A, &s.N}
	}
	for i, n := range numbers {
		*places[i] = n
	}
	return s
}

func (x rig) do(kind int, numbers ...int) {
	x.Helper()
	x.ok(step(kind, numbers...))
}

func (x rig) ok(s lunet.Step) {
	x.Helper()
	if v, e := x.w.Do(s); v != 0 || e != api.OK {
		x.Fatalf("%+v: %d, %v", s, v, e)
	}
}

// refused holds a step to an error, and to have changed nothing.
func (x rig) refused(want api.Errno, s lunet.Step) {
	x.Helper()
	before := x.all()
	if v, e := x.w.Do(s); v != 0 || e != want {
		x.Fatalf("%+v: %d, %v; want %v", s, v, e, want)
	}
	same(x.T, "what is refused changes", x.all(), before)
}

func (x rig) change(a, w int, c api.Change, want uint64, wantE api.Errno) {
	x.Helper()
	s := step(lunet.Change, a, w)
	s.C = c
	if v, e := x.w.Do(s); v != want || e != wantE {
		x.Fatalf("%+v: %d, %v; want %d, %v", s, v, e, want, wantE)
	}
}

func (x rig) put(a, w, key int, val uint64) {
	x.Helper()
	x.change(a, w, api.Change{Kind: 1, Key: key, Val: val}, 0, api.OK)
}

func (x rig) byHand(a, w int, commit bool) {
	x.Helper()
	s := step(lunet.ByHand, a, w)
	s.Commit = commit
	x.ok(s)
}

// open links two units, and serves what they tell each other then.
func (x rig) open(a, b int) {
	x.Helper()
	x.do(lunet.Link, a, b)
	x.do(lunet.Serve, a, b)
	x.do(lunet.Serve, b, a)
}

// row is the kinds of the messages from one unit to another.
func (x rig) row(a, b int) string {
	x.Helper()
	var s []string
	for _, b := range x.w.Row(a, b) {
		m, e := psh.Read(b)
		if e != api.OK {
			x.Fatalf("%v is on its way: %v", b, e)
		}
		s = append(s, psh.Name(m.Kind))
	}
	return strings.Join(s, " ")
}

func (x rig) onItsWay(a, b int, want string) {
	x.Helper()
	same(x.T, "row", x.row(a, b), want)
}

// works is the works of a unit that is up, as the document's examples have them.
func (x rig) works(a int) string {
	var s []string
	for _, w := range x.w.Unit(a).Works() {
		text := luw.Print(w.Luw) + "/" + compare.Name(w.State) + "/"
		for _, k := range w.Kids {
			text += strconv.Itoa(k)
		}
		s = append(s, text)
	}
	return strings.Join(s, " ")
}

func (x rig) has(a int, want string) {
	x.Helper()
	same(x.T, "works", x.works(a), want)
}

func imageText(m res.Image) string {
	var s []string
	for _, p := range m.Pairs {
		s = append(s, strconv.Itoa(p.Key)+"="+strconv.FormatUint(p.Val, 10))
	}
	for _, val := range m.Items {
		s = append(s, strconv.FormatUint(val, 10))
	}
	return strings.Join(s, " ")
}

func (x rig) image(a int, want string) {
	x.Helper()
	same(x.T, "image", imageText(x.w.Unit(a).Image()), want)
}

// log is what happened: of each event the unit, its kind and the work, as the document's examples have them.
func (x rig) log() string {
	var s []string
	for _, e := range x.w.Log() {
		s = append(s, strconv.Itoa(e.Unit)+"/"+strconv.Itoa(e.E.Kind)+"/"+luw.Print(e.E.Luw))
	}
	return strings.Join(s, " ")
}

func (x rig) logs(want string) {
	x.Helper()
	same(x.T, "log", x.log(), want)
}

func (x rig) peer(a, b int) string {
	name, up, open, bad := x.w.Unit(a).Peer(b)
	s := strconv.FormatUint(uint64(name), 10)
	for i, is := range []bool{up, open, bad} {
		if is {
			s += " " + []string{"up", "open", "bad"}[i]
		}
	}
	return s
}

func (x rig) knows(a, b int, want string) {
	x.Helper()
	same(x.T, "peer", x.peer(a, b), want)
}

// all is all that a world shows.
func (x rig) all() string {
	var s []string
	for a := range x.n {
		s = append(s, oct.Hex(x.w.Tape(a)))
		if x.w.Unit(a) != nil {
			s = append(s, x.works(a), imageText(x.w.Unit(a).Image()))
		}
		for b := range x.n {
			s = append(s, strconv.FormatBool(x.w.Linked(a, b)), x.row(a, b))
			if x.w.Unit(a) != nil {
				s = append(s, x.peer(a, b))
			}
		}
	}
	for _, l := range x.w.Luws() {
		s = append(s, luw.Print(l))
	}
	return strings.Join(append(s, x.log()), "|")
}

// events is the events of a kind that the log has of a work.
func events(log []lunet.Event, kind int, l api.Luw) []lunet.Event {
	var list []lunet.Event
	for _, e := range log {
		if e.E.Kind == kind && e.E.Luw == l {
			list = append(list, e)
		}
	}
	return list
}
