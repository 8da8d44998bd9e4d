package unit

import (
	"troth/api"
	"troth/compare"
)

// send sends a message about a work to a peer, and tells whether it was not left out.
func (u *Unit) send(to, kind int, w *work) bool {
	return u.sendMsg(to, api.Msg{Kind: kind, Luw: w.name})
}

// sendMsg sends a message to a peer that is open, and tells whether it was not left out.
func (u *Unit) sendMsg(to int, m api.Msg) bool {
	if !u.isPeer(to) || !u.peers[to].open {
		return false
	}
	u.post(to, m)
	return true
}

func (u *Unit) post(to int, m api.Msg) { u.outs = append(u.outs, Out{To: to, Msg: m}) }

// sent is what a call wants to send.
func (u *Unit) sent() []Out {
	list := u.outs
	u.outs = nil
	return list
}

// tell tells a kid a work's outcome. Nobody will tell the one of a work that is lost any more.
func (u *Unit) tell(w *work, k *kid) {
	kind := api.MsgBackout
	switch {
	case w.lost:
		kind = api.MsgAsk
	case w.outcome == compare.Committed:
		kind = api.MsgCommit
	}
	if u.send(k.unit, kind, w) {
		k.told = true
	}
}

// tellKids tells the kids that have to be told, and were not.
func (u *Unit) tellKids(w *work) {
	for i := range w.kids {
		if k := &w.kids[i]; k.owes() && !k.told {
			u.tell(w, k)
		}
	}
}
