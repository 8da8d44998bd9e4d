package unit

import (
	"slices"

	"troth/api"
	"troth/compare"
	"troth/names"
	"troth/psh"
	"troth/vote"
)

// On takes a message in.
func (u *Unit) On(from int, m api.Msg) ([]Out, api.Errno) {
	switch {
	case !u.made():
		return nil, api.ErrNil
	case !psh.Right(m):
		return nil, api.ErrKind
	case !u.isPeer(from) || !u.peers[from].up:
		return nil, api.ErrDown
	}
	e := u.take(from, m)
	return u.sent(), e
}

func (u *Unit) take(from int, m api.Msg) api.Errno {
	switch {
	case m.Kind == api.MsgNames:
		u.meet(from, m)
	case m.Kind == api.MsgRefuse:
		u.estrange(from, false)
	case !u.peers[from].open:
		return api.ErrNames
	default:
		return u.takeOfWork(from, m)
	}
	return api.OK
}

// takeOfWork takes a message about a work in.
func (u *Unit) takeOfWork(from int, m api.Msg) api.Errno {
	switch m.Kind {
	case api.MsgAttach:
		u.attached(from, m.Luw)
	case api.MsgPrepare:
		return u.askedToVote(from, m.Luw)
	case api.MsgYes:
		return u.voted(from, m.Luw, vote.Yes)
	case api.MsgReadOnly:
		return u.voted(from, m.Luw, vote.ReadOnly)
	case api.MsgNo:
		return u.voted(from, m.Luw, vote.No)
	case api.MsgAsk:
		return u.leftAlone(from, m.Luw)
	case api.MsgCommit:
		return u.told(from, m.Luw, compare.Committed)
	case api.MsgBackout:
		return u.told(from, m.Luw, compare.Backed)
	case api.MsgForget:
		u.forgotten(from, m.Luw, m.Mixed)
	case api.MsgDone:
		u.released(from, m.Luw)
	case api.MsgQuery:
		u.queried(from, m.Luw)
	}
	return api.OK
}

// meet holds a peer's log name against what is remembered.
func (u *Unit) meet(from int, m api.Msg) {
	p := &u.peers[from]
	found, _ := names.Check(u.name, p.name, m.Mine, m.Your, u.worksWith(from)) // a right message has a name
	if names.Bad(found) {
		u.estrange(from, true)
		return
	}
	if found == names.New {
		p.name = m.Mine
		u.must(peerRecord(from, m.Mine))
	}
	p.open, p.bad = true, false
}

// worksWith tells whether a work that is logged has to come to its end with a peer.
func (u *Unit) worksWith(peer int) bool {
	for w := range u.inOrder {
		if w.logged && (w.parent == peer || slices.Contains(w.owing(), peer)) {
			return true
		}
	}
	return false
}

// estrange has a peer bad.
func (u *Unit) estrange(peer int, refuse bool) {
	u.happenedWith(EvNames, api.Luw{}, peer)
	u.peers[peer].open, u.peers[peer].bad = false, true
	if refuse {
		u.post(peer, api.Msg{Kind: api.MsgRefuse})
	}
	u.fail(peer)
}

// reply sends a message about a work that need not be there.
func (u *Unit) reply(to, kind int, name api.Luw) { u.sendMsg(to, api.Msg{Kind: kind, Luw: name}) }

// child is the work of a name that came from a unit, nil if there is none.
func (u *Unit) child(from int, name api.Luw) *work {
	if w := u.works[name]; w != nil && w.parent == from {
		return w
	}
	return nil
}

// given is the work of a name that was given to a unit, and its kid there, nil both if there is none.
func (u *Unit) given(to int, name api.Luw) (*work, *kid) {
	w := u.works[name]
	if w == nil {
		return nil, nil
	}
	if k := w.kidOf(to); k != nil {
		return w, k
	}
	return nil, nil
}

// attached takes a work from a peer. What was told of a name that is spent may still be on its way, so that it can't be taken again.
func (u *Unit) attached(from int, name api.Luw) {
	_, past := u.spent[name]
	if past || u.works[name] != nil || len(u.works) >= api.MaxWorks {
		u.reply(from, api.MsgNo, name)
		return
	}
	u.works[name] = u.newWork(name, from)
}

func (u *Unit) askedToVote(from int, name api.Luw) api.Errno {
	w := u.child(from, name)
	switch {
	case w == nil:
		u.reply(from, api.MsgNo, name)
	case w.state != compare.Active:
		return api.ErrState
	default:
		u.prepare(w)
	}
	return api.OK
}

// voted takes a kid's vote.
func (u *Unit) voted(from int, name api.Luw, says int) api.Errno {
	w, k := u.given(from, name)
	switch {
	case k == nil:
		if says == vote.Yes { // it waits for an outcome
			u.reply(from, api.MsgBackout, name)
		}
		return api.OK
	case k.vote != 0, w.state == compare.Active && says != vote.No:
		return api.ErrState
	}
	k.vote = says
	switch {
	case w.outcome != 0:
		u.look(w)
	case w.state == compare.Pending && (says == vote.No || w.allVoted()):
		u.castVote(w)
	}
	return api.OK
}

// told takes the outcome that a parent tells.
func (u *Unit) told(from int, name api.Luw, outcome int) api.Errno {
	w := u.child(from, name)
	switch {
	case w == nil:
		u.reply(from, api.MsgForget, name)
	case w.isOpen():
		if outcome == compare.Committed {
			return api.ErrState
		}
		u.undo(w, false)
	case w.outcome == 0:
		u.learn(w, outcome)
	default:
		u.reportAgain(w)
	}
	return api.OK
}

// reportAgain looks at a work whose parent has not heard that it is finished.
func (u *Unit) reportAgain(w *work) {
	w.reported = false
	u.look(w)
}

// leftAlone has a work know that its parent gave it up.
func (u *Unit) leftAlone(from int, name api.Luw) api.Errno {
	w := u.child(from, name)
	switch {
	case w == nil:
		u.reply(from, api.MsgForget, name)
	case w.isOpen():
		return api.ErrState
	case w.outcome == 0:
		u.giveUp(w)
		u.look(w)
	default:
		u.reportAgain(w)
	}
	return api.OK
}

// forgotten takes from a kid that it is finished. One that was not told an outcome yet speaks of a work of that name that was there ahead.
func (u *Unit) forgotten(from int, name api.Luw, mixed bool) {
	w, k := u.given(from, name)
	if k == nil || w.outcome == 0 {
		u.reply(from, api.MsgDone, name)
		return
	}
	if mixed && !w.mixed {
		u.mix(w, from)
	}
	k.forgot = true
	if k.vote == 0 {
		k.vote = vote.No
	}
	u.reply(from, api.MsgDone, name)
	u.look(w)
}

// released takes from a parent that it knows a work to be finished.
func (u *Unit) released(from int, name api.Luw) {
	if w := u.child(from, name); w != nil && w.finished() {
		u.end(w)
	}
}

// queried tells a kid what it asks for, if that is decided.
func (u *Unit) queried(from int, name api.Luw) {
	w, k := u.given(from, name)
	switch {
	case k == nil:
		u.reply(from, api.MsgBackout, name)
	case w.outcome != 0:
		u.tell(w, k)
	}
}
