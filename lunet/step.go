package lunet

import (
	"troth/api"
	"troth/psh"
	"troth/unit"
)

// Do does a step.
func (w *World) Do(s Step) (uint64, api.Errno) {
	if w == nil || len(w.places) == 0 {
		return 0, api.ErrNil
	}
	val, e := w.step(s)
	w.gather()
	return val, e
}

// refusal tells what is wrong with a step, ahead of what hangs on its kind alone. What counts more comes later, and stands.
func (w *World) refusal(s Step) api.Errno {
	e := api.OK
	switch s.Kind {
	case Attach, Change, Sync, Backout, ByHand:
		if s.W < 0 || s.W >= len(w.luws) {
			e = api.ErrNone
		}
		fallthrough
	case Begin, Reset, Tick, Crash:
		if !w.isUp(s.A) {
			e = api.ErrDown
		}
		fallthrough
	case Restart, Cold:
		if !w.has(s.A) {
			e = api.ErrArg
		}
	case Link, Cut, Serve:
		if !w.has(s.A) || !w.has(s.B) || s.A == s.B {
			e = api.ErrArg
		}
	default:
		e = api.ErrArg
	}
	return e
}

func (w *World) step(s Step) (uint64, api.Errno) {
	if e := w.refusal(s); e != api.OK {
		return 0, e
	}
	switch s.Kind {
	case Link:
		return 0, w.link(s.A, s.B)
	case Cut:
		return 0, w.unlink(s.A, s.B)
	case Serve:
		return 0, w.serve(s.A, s.B)
	case Begin:
		return 0, w.begin(s.A)
	case Change:
		return w.Unit(s.A).Change(w.luws[s.W], s.C)
	case Crash:
		w.crash(s.A, s.N)
		return 0, api.OK
	case Restart:
		return 0, w.restart(s.A)
	case Cold:
		return 0, w.cold(s.A)
	}
	outs, e := w.call(s)
	w.send(s.A, outs)
	return 0, e
}

// call is what a unit wants to send, of the steps that are just a unit's call.
func (w *World) call(s Step) ([]unit.Out, api.Errno) {
	u := w.Unit(s.A)
	switch s.Kind {
	case Attach:
		return u.Attach(w.luws[s.W], s.B)
	case Sync:
		return u.Sync(w.luws[s.W])
	case Backout:
		return u.Backout(w.luws[s.W])
	case ByHand:
		return u.ByHand(w.luws[s.W], s.Commit)
	case Reset:
		return u.Reset(s.B)
	}
	return u.Tick()
}

// send puts messages behind the rows that they belong on, each where there is a link still: one that does not fit cuts its link.
func (w *World) send(from int, outs []unit.Out) {
	for _, out := range outs {
		if !w.Linked(from, out.To) {
			continue
		}
		x := &w.links[from][out.To]
		if len(x.row) >= api.MaxMail {
			w.cut(from, out.To)
			continue
		}
		b, _ := psh.Write(out.Msg)
		x.row = append(x.row, b)
	}
}

// cut takes a link away, and tells both ends so.
func (w *World) cut(a, b int) {
	w.part(a, b)
	w.down(a, b)
	w.down(b, a)
}

// part takes a link away, with all that is on it.
func (w *World) part(a, b int) {
	w.links[a][b] = way{}
	w.links[b][a] = way{}
}

// up tells a unit that it has a session with a peer, and down that it has none any more. A unit that is down hears nothing.
func (w *World) up(i, peer int) {
	outs, _ := w.Unit(i).Up(peer)
	w.send(i, outs)
}

func (w *World) down(i, peer int) {
	outs, _ := w.Unit(i).Down(peer)
	w.send(i, outs)
}

func (w *World) link(a, b int) api.Errno {
	switch {
	case !w.isUp(a) || !w.isUp(b):
		return api.ErrDown
	case w.Linked(a, b):
		return api.ErrState
	}
	w.links[a][b].linked = true
	w.links[b][a].linked = true
	w.up(a, b)
	w.up(b, a)
	return api.OK
}

func (w *World) unlink(a, b int) api.Errno {
	if !w.Linked(a, b) {
		return api.ErrState
	}
	w.cut(a, b)
	return api.OK
}

// serve hands the first message over. It is off the row even where it is refused.
func (w *World) serve(a, b int) api.Errno {
	row := w.links[a][b].row
	if len(row) == 0 {
		return api.ErrNone
	}
	w.links[a][b].row = row[1:]
	m, _ := psh.Read(row[0]) // it was written as it is
	outs, e := w.Unit(b).On(a, m)
	w.send(b, outs)
	return e
}

func (w *World) begin(i int) api.Errno {
	name, e := w.Unit(i).Begin()
	if e == api.OK {
		w.luws = append(w.luws, name)
	}
	return e
}

// crash has a unit go down, and what it did not force be lost but for a front.
func (w *World) crash(i, keep int) {
	w.places[i].unit = nil
	for b := range w.places {
		if w.Linked(i, b) {
			w.part(i, b)
			w.down(b, i)
		}
	}
	w.places[i].tape.Crash(keep)
}

func (w *World) restart(i int) api.Errno {
	if w.isUp(i) {
		return api.ErrState
	}
	u, e := unit.Open(i, w.places[i].tape)
	w.places[i].unit = u
	return e
}

func (w *World) cold(i int) api.Errno {
	if w.isUp(i) {
		return api.ErrState
	}
	w.coldStart(i)
	return api.OK
}
