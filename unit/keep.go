package unit

import (
	"troth/api"
	"troth/compare"
	"troth/wal"
)

const (
	reserve    = 1024 // bytes that stay free for records that must be
	reserveFor = 128  // more of them for each work
)

// must writes a record that must be, forced.
func (u *Unit) must(r api.Rec) { u.add(r, true) }

// add writes a record that must be. One that is not forced may be lost: what it tells is found out again.
func (u *Unit) add(r api.Rec, force bool) {
	if u.log.Room() < size(r) {
		u.pack()
	}
	u.log.Add(r, force)
}

// size is how many bytes a record takes on the tape.
func size(r api.Rec) int {
	b, _ := wal.Write(r)
	return len(b)
}

// may writes a record of a work that may be refused, and tells whether it was not.
func (u *Unit) may(w *work, r api.Rec) bool {
	need := size(r) + reserve + reserveFor*u.logged()
	if !w.logged {
		need += reserveFor
	}
	if u.log.Room() < need {
		u.pack()
	}
	if u.log.Room() < need {
		return false
	}
	return u.log.Add(r, true) == api.OK
}

// logged is how many works are logged.
func (u *Unit) logged() int {
	n := 0
	for w := range u.inOrder {
		if w.logged {
			n++
		}
	}
	return n
}

// pack swaps the log for what has to be known of the unit. A tape that has no room for that keeps its log.
func (u *Unit) pack() {
	list := []api.Rec{u.nameRecord()}
	for i, p := range u.peers {
		if p.name != 0 {
			list = append(list, peerRecord(i, p.name))
		}
	}
	list = append(list, imageRecord(u.goods.Image()))
	for w := range u.inOrder {
		if w.logged {
			list = append(list, w.records()...)
		}
	}
	u.log.Swap(list)
}

// records is what has to be known of a work.
func (w *work) records() []api.Rec {
	var list []api.Rec
	switch w.state {
	case compare.Pending:
		list = append(list, pendingRecord(w))
	case compare.Doubt:
		list = append(list, doubtRecord(w))
	case compare.HeurCommit, compare.HeurBackout:
		list = append(list, doubtRecord(w), byHandRecord(w, w.state == compare.HeurCommit)) // its changes are done, so that it has none any more
	default:
		list = append(list, outcomeRecord(w, w.outcome, w.state, nil))
	}
	if w.mixed {
		list = append(list, mixedRecord(w))
	}
	return list
}
