package unit

import (
	"troth/api"
	"troth/luw"
	"troth/oct"
	"troth/res"
	"troth/vote"
)

// Kinds of records.
const (
	recName    = 1
	recPeer    = 2
	recPending = 3
	recDoubt   = 4
	recOutcome = 5
	recEnd     = 6
	recByHand  = 7
	recMixed   = 8
	recImage   = 9
)

const (
	byteSize = 1
	nameSize = 4 // of a log name, and of a life
	luwSize  = 9
	wordSize = 8  // of a value, and of a next number
	lostMark = 16 // more has the outcome of a work that is lost
)

// put is b and a number, which n bytes are known to hold, behind it.
func put(b []byte, v uint64, n int) []byte {
	digits, _ := oct.Put(v, n)
	return append(b, digits...)
}

func (u *Unit) nameRecord() api.Rec {
	return api.Rec{Kind: recName, Body: put(put(nil, uint64(u.name), nameSize), uint64(u.life), nameSize)}
}

func peerRecord(peer int, name uint32) api.Rec {
	return api.Rec{Kind: recPeer, Body: put(put(nil, uint64(peer), byteSize), uint64(name), nameSize)}
}

// pendingRecord has all kids: which of them matter shows by their votes, which are not there yet.
func pendingRecord(w *work) api.Rec {
	var all []int
	for _, k := range w.kids {
		all = append(all, k.unit)
	}
	return api.Rec{Kind: recPending, Body: w.putKin(w.putName(), all)}
}

func doubtRecord(w *work) api.Rec {
	return api.Rec{Kind: recDoubt, Body: putChanges(w.putKin(w.putName(), w.owing()), w.changes)}
}

// outcomeRecord has the changes of a work that commits where it was begun: no other record has them.
func outcomeRecord(w *work, outcome, did int, changes []api.Change) api.Rec {
	b := w.putName()
	if w.lost {
		outcome += lostMark
	}
	b = put(put(b, uint64(outcome), byteSize), uint64(did), byteSize)
	return api.Rec{Kind: recOutcome, Body: putChanges(w.putKin(b, w.owing()), changes)}
}

func endRecord(w *work) api.Rec { return api.Rec{Kind: recEnd, Body: w.putName()} }

func byHandRecord(w *work, commit bool) api.Rec {
	var says uint64
	if commit {
		says = 1
	}
	return api.Rec{Kind: recByHand, Body: put(w.putName(), says, byteSize)}
}

func mixedRecord(w *work) api.Rec { return api.Rec{Kind: recMixed, Body: w.putName()} }

func imageRecord(m res.Image) api.Rec {
	b := put(nil, uint64(len(m.Pairs)), byteSize)
	for _, p := range m.Pairs {
		b = put(put(b, uint64(p.Key), byteSize), p.Val, wordSize)
	}
	b = put(b, uint64(len(m.Items)), byteSize)
	for _, val := range m.Items {
		b = put(b, val, wordSize)
	}
	return api.Rec{Kind: recImage, Body: put(b, uint64(m.Next), wordSize)}
}

func (w *work) putName() []byte {
	b, _ := luw.Write(w.name)
	return b
}

// putKin is b, and behind it the parent and these kids.
func (w *work) putKin(b []byte, kids []int) []byte {
	b = put(b, uint64(w.parent+1), byteSize)
	b = put(b, uint64(len(kids)), byteSize)
	for _, unit := range kids {
		b = put(b, uint64(unit), byteSize)
	}
	return b
}

func putChanges(b []byte, list []api.Change) []byte {
	more, _ := res.Write(list)
	return append(b, more...)
}

// record is what a record says.
type record struct {
	kind          int
	name, life    uint32
	peer          int
	luw           api.Luw
	parent        int
	kids          []kid
	changes       []api.Change
	outcome, did  int
	lost, commits bool
	image         res.Image
}

// readRecord is what a record of a unit's log says, and whether it is one that the table of records has.
func readRecord(me int, r api.Rec) (record, bool) {
	x := record{kind: r.Kind}
	b := body{me: me, left: r.Body}
	switch r.Kind {
	case recName:
		x.name, x.life = b.four(), b.four()
		if x.name == 0 {
			goto none
		}
	case recPeer:
		x.peer, x.name = b.unit(), b.four()
	case recPending:
		x.luw, x.parent, x.kids = b.luw(), b.parent(), b.kids()
	case recDoubt:
		x.luw, x.parent, x.kids, x.changes = b.luw(), b.parent(), b.kids(), b.changes()
	case recOutcome:
		x.luw = b.luw()
		x.outcome, x.lost = b.outcome()
		x.did = b.one()
		x.parent, x.kids, x.changes = b.parent(), b.kids(), b.changes()
		if !isOutcome(x.outcome) || !isOutcome(x.did) {
			goto none
		}
	case recEnd, recMixed:
		x.luw = b.luw()
	case recByHand:
		x.luw, x.commits = b.luw(), b.flag()
	case recImage:
		x.image = b.image()
	default:
		goto none
	}
	if b.wrong || len(b.left) > 0 {
		goto none
	}
	return x, true
none:
	return record{}, false
}

// body is a record's body, which is read from its front on; wrong once it lacked something, or had what may not be.
type body struct {
	me    int
	left  []byte
	wrong bool
}

// take takes n bytes off, none if there are fewer.
func (b *body) take(n int) []byte {
	if n > len(b.left) {
		b.wrong = true
		return nil
	}
	front := b.left[:n]
	b.left = b.left[n:]
	return front
}

func (b *body) number(n int) uint64 {
	v, _ := oct.Get(b.take(n))
	return v
}

func (b *body) one() int { return int(b.number(byteSize)) }

func (b *body) four() uint32 { return uint32(b.number(nameSize)) }

// check has the body wrong, if something is not right.
func (b *body) check(right bool) { b.wrong = b.wrong || !right }

func (b *body) flag() bool {
	n := b.one()
	b.check(n <= 1)
	return n == 1
}

// unit is another unit's number.
func (b *body) unit() int {
	n := b.one()
	b.check(isUnit(n) && n != b.me)
	return n
}

func (b *body) parent() int {
	n := b.one() - 1
	b.check(n == nobody || isUnit(n) && n != b.me)
	return n
}

// kids is kids with the vote Yes: who has to be told is told, whatever its vote was.
func (b *body) kids() []kid {
	n := b.one()
	b.check(n <= api.MaxKids)
	var list []kid
	for range n {
		list = append(list, kid{unit: b.unit(), vote: vote.Yes})
	}
	return list
}

func (b *body) luw() api.Luw {
	name, e := luw.Read(b.take(luwSize))
	b.check(e == api.OK)
	return name
}

// outcome is an outcome, and whether its work is lost.
func (b *body) outcome() (int, bool) {
	n := b.one()
	lost := n >= lostMark
	if lost {
		n -= lostMark
	}
	return n, lost
}

// changes is what is left, as changes.
func (b *body) changes() []api.Change {
	list, e := res.Read(b.take(len(b.left)))
	b.check(e == api.OK)
	return list
}

func (b *body) image() res.Image {
	var m res.Image
	for range b.one() {
		m.Pairs = append(m.Pairs, res.Pair{Key: b.one(), Val: b.number(wordSize)})
	}
	for range b.one() {
		m.Items = append(m.Items, b.number(wordSize))
	}
	m.Next = int(b.number(wordSize)) // one that is too great for an int is below 0 then, which no resources have
	return m
}
