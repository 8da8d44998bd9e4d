package unit

import (
	"slices"

	"troth/api"
	"troth/compare"
	"troth/vote"
)

// prepare asks for a work's votes.
func (u *Unit) prepare(w *work) {
	w.changes, _ = u.goods.Prepare(w.number) // one that is Active is not prepared yet
	switch {
	case slices.Contains(w.votes(), vote.No):
		u.backOut(w)
	case len(w.kids) == 0:
		u.castVote(w)
	case !u.may(w, pendingRecord(w)):
		u.backOut(w)
	default:
		w.state, w.logged = compare.Pending, true
		u.askVotes(w)
	}
}

// askVotes asks the kids that have not voted.
func (u *Unit) askVotes(w *work) {
	for _, k := range w.kids {
		if k.vote == 0 {
			u.send(k.unit, api.MsgPrepare, w)
		}
	}
	if w.allVoted() {
		u.castVote(w)
	}
}

// castVote does what a work's votes say, once they are all there.
func (u *Unit) castVote(w *work) {
	says := vote.Says3(w.votes())
	switch {
	case says == vote.No:
		u.backOut(w)
	case says == vote.ReadOnly && len(w.changes) == 0:
		u.leave(w)
	case w.parent == nobody:
		u.commit(w)
	default:
		u.promise(w)
	}
}

// leave ends a work that has changed nothing: whatever its outcome is, it plays no part in it.
func (u *Unit) leave(w *work) {
	if w.logged {
		u.must(endRecord(w))
	}
	if w.parent == nobody {
		u.happened(EvEnd, w)
	} else {
		u.send(w.parent, api.MsgReadOnly, w)
	}
	u.gone(w)
}

// commit commits a work where it was begun.
func (u *Unit) commit(w *work) {
	if !u.may(w, outcomeRecord(w, compare.Committed, compare.Committed, w.changes)) {
		u.backOut(w)
		return
	}
	w.logged = true
	u.settle(w, compare.Committed)
	for i := range w.kids {
		if k := &w.kids[i]; k.matters() {
			u.tell(w, k)
		}
	}
	u.look(w)
}

// promise votes yes: from here on the work is its parent's to decide.
func (u *Unit) promise(w *work) {
	if !u.may(w, doubtRecord(w)) {
		u.backOut(w)
		return
	}
	w.state, w.logged = compare.Doubt, true
	w.asked = u.send(w.parent, api.MsgYes, w)
}

// do does a work's changes, or drops them.
func (u *Unit) do(w *work, outcome int) {
	if outcome == compare.Committed {
		u.goods.Commit(w.number)
	} else {
		u.goods.Backout(w.number)
	}
	w.changes = nil
}

// settle gives a work its outcome, and does that.
func (u *Unit) settle(w *work, outcome int) {
	kind := EvBackout
	if outcome == compare.Committed {
		kind = EvCommit
	}
	u.do(w, outcome)
	u.happened(kind, w)
	w.state, w.outcome = outcome, outcome
}

// backOut backs a work out that has not voted, and tells its parent so.
func (u *Unit) backOut(w *work) { u.undo(w, true) }

// undo backs a work out that has not voted; a parent that asked for it needs no vote.
func (u *Unit) undo(w *work, votes bool) {
	u.settle(w, compare.Backed)
	if w.logged {
		u.must(outcomeRecord(w, w.outcome, w.state, nil))
		u.tellKids(w)
	} else {
		u.callOff(w)
	}
	if votes {
		u.send(w.parent, api.MsgNo, w)
	}
	if w.logged {
		u.look(w)
	} else {
		u.gone(w)
	}
}

// callOff has the kids of a work that is not logged drop it: nobody waits for what they say to that.
func (u *Unit) callOff(w *work) {
	for _, k := range w.kids {
		if !k.forgot {
			u.send(k.unit, api.MsgBackout, w)
		}
	}
}

// learn gives a work that is in doubt, or was decided by hand, its outcome.
func (u *Unit) learn(w *work, outcome int) {
	if w.state == compare.Doubt {
		u.must(outcomeRecord(w, outcome, outcome, nil))
		u.settle(w, outcome)
	} else {
		u.hold(w, outcome)
	}
	u.tellKids(w)
	u.look(w)
}

// hold holds a decision by hand against the outcome.
func (u *Unit) hold(w *work, outcome int) {
	state, damage, _ := compare.Learn(w.state, outcome)
	w.state, w.outcome = state, outcome
	u.must(outcomeRecord(w, outcome, state, nil))
	if damage {
		u.mix(w, u.me)
	}
}

// mix keeps that there was damage, at a unit.
func (u *Unit) mix(w *work, at int) {
	w.mixed = true
	if w.logged {
		u.must(mixedRecord(w))
	}
	u.happenedWith(EvMixed, w.name, at)
}

// decideByHand decides a work that is in doubt.
func (u *Unit) decideByHand(w *work, commit bool) {
	state, _ := compare.Decide(w.state, commit)
	did, _ := compare.Answer(state)
	u.must(byHandRecord(w, commit))
	u.do(w, did)
	u.happened(EvByHand, w)
	w.state = state
}

// giveUp ends a work whose outcome nobody will tell any more: what was done here stays.
func (u *Unit) giveUp(w *work) {
	if w.state == compare.Doubt {
		u.decideByHand(w, false)
	}
	if w.outcome == 0 {
		did, _ := compare.Answer(w.state)
		w.state, w.outcome, w.lost = did, did, true
	}
	u.must(outcomeRecord(w, w.outcome, w.state, nil))
	u.tellKids(w)
}

// look ends a work that is finished, or reports to its parent that it is.
func (u *Unit) look(w *work) {
	switch {
	case !w.finished():
	case w.parent == nobody:
		u.end(w)
		u.happened(EvEnd, w)
	case !w.reported:
		w.reported = u.sendMsg(w.parent, api.Msg{Kind: api.MsgForget, Luw: w.name, Mixed: w.mixed})
	}
}

// end lets a work go, and its log know it. That is not forced: a work that comes back ends again.
func (u *Unit) end(w *work) {
	if w.logged {
		u.add(endRecord(w), false)
	}
	u.gone(w)
}

// fail has the works bear that a peer's session is gone, or that it is bad.
func (u *Unit) fail(peer int) {
	for w := range u.inOrder {
		w.part(peer)
		if w.hangsOn(peer) {
			u.backOut(w)
		}
	}
}

// part has a work know no more that it told, asked or reported to a peer.
func (w *work) part(peer int) {
	for i := range w.kids {
		if w.kids[i].unit == peer {
			w.kids[i].told = false
		}
	}
	if w.parent == peer {
		w.asked, w.reported = false, false
	}
}

// hangsOn tells whether a work can't be committed any more once a peer's session is gone.
func (w *work) hangsOn(peer int) bool {
	switch {
	case !w.isOpen():
		return false
	case w.parent == peer:
		return true
	}
	return slices.ContainsFunc(w.kids, func(k kid) bool {
		return k.unit == peer && (w.state == compare.Active || k.vote == 0)
	})
}
