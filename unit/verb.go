package unit

import (
	"troth/api"
	"troth/compare"
)

// Kinds of what is done to the resources.
const (
	gets   = 0
	puts   = 1
	dels   = 2
	pushes = 3
	pops   = 4
)

// most is the greatest number that a life may have whose works are begun, and that a work may have in its life: both stand together in a name's Seq.
const most = 65535

// session tells what is wrong, if these are no units that may have a session.
func (u *Unit) session(peer int) api.Errno {
	switch {
	case !u.made():
		return api.ErrNil
	case !u.isPeer(peer):
		return api.ErrArg
	}
	return api.OK
}

// Up is told that a session is there.
func (u *Unit) Up(p int) ([]Out, api.Errno) {
	if e := u.session(p); e != api.OK {
		return nil, e
	}
	x := &u.peers[p]
	x.up, x.open, x.bad = true, false, false
	u.post(p, api.Msg{Kind: api.MsgNames, Mine: u.name, Your: x.name})
	return u.sent(), api.OK
}

// Down is told that a session is gone.
func (u *Unit) Down(p int) ([]Out, api.Errno) {
	if e := u.session(p); e != api.OK {
		return nil, e
	}
	x := &u.peers[p]
	if !x.up {
		return nil, api.ErrDown
	}
	x.up, x.open, x.bad = false, false, false
	u.fail(p)
	return u.sent(), api.OK
}

// Tick asks, tells and reports what could not be done till now.
func (u *Unit) Tick() ([]Out, api.Errno) {
	if !u.made() {
		return nil, api.ErrNil
	}
	for w := range u.inOrder {
		switch {
		case w.outcome != 0:
			u.tellKids(w)
			u.look(w)
		case !w.isOpen() && !w.asked:
			w.asked = u.send(w.parent, api.MsgQuery, w)
		}
	}
	return u.sent(), api.OK
}

// Begin begins a work.
func (u *Unit) Begin() (api.Luw, api.Errno) {
	switch {
	case !u.made():
		return api.Luw{}, api.ErrNil
	case len(u.works) >= api.MaxWorks || u.life > most:
		return api.Luw{}, api.ErrFull
	}
	n := u.begun + 1
	for n <= most && u.works[u.named(n)] != nil {
		n++
	}
	if n > most {
		return api.Luw{}, api.ErrFull
	}
	u.begun = n
	name := u.named(n)
	u.works[name] = u.newWork(name, nobody)
	return name, api.OK
}

// named is the name of this life's work of a number.
func (u *Unit) named(n uint32) api.Luw {
	return api.Luw{Unit: u.me, Life: u.name, Seq: u.life*(most+1) + n}
}

// find is the work of a name.
func (u *Unit) find(l api.Luw) (*work, api.Errno) {
	if !u.made() {
		return nil, api.ErrNil
	}
	if w := u.works[l]; w != nil {
		return w, api.OK
	}
	return nil, api.ErrNone
}

// active is the work of a name, if it is Active.
func (u *Unit) active(l api.Luw) (*work, api.Errno) {
	w, e := u.find(l)
	if e == api.OK && w.state != compare.Active {
		return nil, api.ErrState
	}
	return w, e
}

// Attach gives a work a kid.
func (u *Unit) Attach(l api.Luw, p int) ([]Out, api.Errno) {
	if e := u.session(p); e != api.OK {
		return nil, e
	}
	w, e := u.active(l)
	switch {
	case e != api.OK:
		return nil, e
	case w.parent == p || w.kidOf(p) != nil:
		return nil, api.ErrState
	case !u.peers[p].open:
		return nil, api.ErrNames
	case len(w.kids) >= api.MaxKids:
		return nil, api.ErrFull
	}
	w.kids = append(w.kids, kid{unit: p})
	u.send(p, api.MsgAttach, w)
	return u.sent(), api.OK
}

// Change does something to the resources for a work.
func (u *Unit) Change(l api.Luw, c api.Change) (uint64, api.Errno) {
	w, e := u.active(l)
	if e != api.OK {
		return 0, e
	}
	switch c.Kind {
	case gets:
		val, _, e := u.goods.Get(w.number, c.Key)
		return val, e
	case puts:
		return 0, u.goods.Put(w.number, c.Key, c.Val)
	case dels:
		return 0, u.goods.Del(w.number, c.Key)
	case pushes:
		return 0, u.goods.Push(w.number, c.Val)
	case pops:
		return u.goods.Pop(w.number)
	}
	return 0, api.ErrArg
}

// Sync asks for a work's outcome.
func (u *Unit) Sync(l api.Luw) ([]Out, api.Errno) {
	w, e := u.active(l)
	switch {
	case e != api.OK:
		return nil, e
	case w.parent != nobody:
		return nil, api.ErrState
	}
	u.prepare(w)
	return u.sent(), api.OK
}

// Backout backs a work out.
func (u *Unit) Backout(l api.Luw) ([]Out, api.Errno) {
	w, e := u.active(l)
	if e != api.OK {
		return nil, e
	}
	u.backOut(w)
	return u.sent(), api.OK
}

// ByHand decides a work by hand.
func (u *Unit) ByHand(l api.Luw, commit bool) ([]Out, api.Errno) {
	w, e := u.find(l)
	if e != api.OK {
		return nil, e
	}
	if _, e := compare.Decide(w.state, commit); e != api.OK {
		return nil, e
	}
	u.decideByHand(w, commit)
	return u.sent(), api.OK
}

// Reset forgets what is remembered of a peer that is bad, and what hung on it.
func (u *Unit) Reset(p int) ([]Out, api.Errno) {
	if e := u.session(p); e != api.OK {
		return nil, e
	}
	x := &u.peers[p]
	if !x.bad {
		return nil, api.ErrState
	}
	u.must(peerRecord(p, 0))
	x.name, x.bad = 0, false
	for w := range u.inOrder {
		u.cutOff(w, p)
	}
	return u.sent(), api.OK
}

// cutOff frees a work of a peer that is not the one any more that it knew.
func (u *Unit) cutOff(w *work, peer int) {
	touched := w.parent == peer
	if touched {
		w.parent = nobody
		u.giveUp(w)
	}
	for i := range w.kids {
		if k := &w.kids[i]; k.unit == peer && k.owes() {
			k.forgot, touched = true, true
			u.happenedWith(EvCold, w.name, peer)
		}
	}
	if touched && w.outcome != 0 {
		u.look(w)
	}
}
