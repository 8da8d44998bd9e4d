package unit

import (
	"troth/api"
	"troth/compare"
	"troth/res"
	"troth/tape"
	"troth/wal"
)

const redoer = 1 // what changes that are done again go by, while no work has a number in the resources yet

// Open opens a unit on the log that it left.
func Open(me int, t *tape.Tape) (*Unit, api.Errno) {
	if !mayBe(me, t) {
		return nil, api.ErrArg
	}
	list, _ := wal.Read(t.Bytes()) // the tape is left as it is till all is known to be right
	u := bare(me)
	if !u.replay(list) || !u.resume() {
		return nil, api.ErrForm
	}
	log, _, e := wal.Open(t)
	if e != api.OK {
		return nil, e
	}
	u.log = log
	u.life++
	u.pack()
	return u, api.OK
}

// replay makes the unit what records say, one behind the other, and tells whether they are right.
func (u *Unit) replay(list []api.Rec) bool {
	if len(list) == 0 || list[0].Kind != recName {
		return false
	}
	for _, r := range list {
		x, right := readRecord(u.me, r)
		if !right || !u.redo(x) {
			return false
		}
	}
	return len(u.works) <= api.MaxWorks
}

// redo does what a record says, and tells whether that can be.
func (u *Unit) redo(x record) bool {
	w := u.works[x.luw]
	switch x.kind {
	case recName:
		u.name, u.life = x.name, x.life
	case recPeer:
		u.peers[x.peer].name = x.name
	case recPending:
		u.rewrite(x, compare.Pending)
	case recDoubt:
		u.rewrite(x, compare.Doubt).changes = x.changes
	case recOutcome:
		return u.redoOutcome(x)
	case recEnd:
		delete(u.works, x.luw)
	case recByHand:
		return w != nil && u.redoByHand(w, x.commits)
	case recMixed:
		if w == nil {
			return false
		}
		w.mixed = true
	case recImage:
		goods, e := res.Load(x.image)
		u.goods = goods
		return e == api.OK
	}
	return true
}

// rewrite is a work as a record has it, in the place of one of its name.
func (u *Unit) rewrite(x record, state int) *work {
	w := u.newWork(x.luw, x.parent)
	w.kids, w.state, w.logged = x.kids, state, true
	if old := u.works[x.luw]; old != nil {
		w.mixed = old.mixed
	}
	u.works[x.luw] = w
	return w
}

func (u *Unit) redoOutcome(x record) bool {
	if x.did == compare.Committed && !u.redoChanges(u.undone(x)) {
		return false
	}
	w := u.rewrite(x, x.did)
	w.outcome, w.lost = x.outcome, x.lost
	return true
}

// undone is the changes of a record's work that were not done ahead of it: the record's own, where nothing stood in the log that has them.
func (u *Unit) undone(x record) []api.Change {
	w := u.works[x.luw]
	switch {
	case w == nil || w.state == compare.Pending:
		return x.changes
	case w.state == compare.Doubt:
		return w.changes
	}
	return nil
}

func (u *Unit) redoByHand(w *work, commit bool) bool {
	state, e := compare.Decide(w.state, commit)
	if e != api.OK || commit && !u.redoChanges(w.changes) {
		return false
	}
	w.state, w.changes = state, nil
	return true
}

// redoChanges does changes, and tells whether they can be done.
func (u *Unit) redoChanges(list []api.Change) bool {
	return u.goods.Restore(redoer, list) == api.OK && u.goods.Commit(redoer) == api.OK
}

// resume has each work go on as one that came through a crash, and tells whether it can.
func (u *Unit) resume() bool {
	for w := range u.inOrder {
		switch w.state {
		case compare.Pending:
			w.state, w.outcome = compare.Backed, compare.Backed
			u.happened(EvBackout, w)
		case compare.Doubt:
			if u.goods.Restore(w.number, w.changes) != api.OK {
				return false
			}
		}
	}
	return true
}
