package unit

import (
	"maps"
	"slices"

	"troth/api"
	"troth/compare"
	"troth/luw"
	"troth/vote"
)

const nobody = -1 // the parent of a work that was begun here

// kid is a unit that a work was given to from here.
type kid struct {
	unit         int
	vote         int // 0 till it came
	forgot, told bool
}

// matters tells whether a kid has to be told the outcome.
func (k kid) matters() bool { return k.vote != vote.ReadOnly }

// owes tells whether it has still to forget.
func (k kid) owes() bool { return k.matters() && !k.forgot }

// work is a work as it stands at this unit. Its number is what its changes go by in the resources.
type work struct {
	name     api.Luw
	number   int
	parent   int
	kids     []kid
	state    int
	outcome  int
	changes  []api.Change // of one that is prepared, till they are done
	logged   bool
	mixed    bool
	lost     bool
	asked    bool
	reported bool
}

// newWork is a work that is Active, and in none's keeping yet.
func (u *Unit) newWork(name api.Luw, parent int) *work {
	u.numbered++
	return &work{name: name, number: u.numbered, parent: parent, state: compare.Active}
}

// inOrder yields the works, rising by name, those that were there when it began.
func (u *Unit) inOrder(yield func(*work) bool) {
	for _, name := range slices.SortedFunc(maps.Keys(u.works), byName) {
		if !yield(u.works[name]) {
			return
		}
	}
}

func byName(a, b api.Luw) int {
	switch {
	case luw.Less(a, b):
		return -1
	case luw.Less(b, a):
		return 1
	}
	return 0
}

// gone lets a work go.
func (u *Unit) gone(w *work) {
	if w.outcome != 0 {
		u.spent[w.name] = passed{}
	}
	delete(u.works, w.name)
}

// kidOf is a work's kid that is a unit, nil if it has none.
func (w *work) kidOf(unit int) *kid {
	at := slices.IndexFunc(w.kids, func(k kid) bool { return k.unit == unit })
	if at < 0 {
		return nil
	}
	return &w.kids[at]
}

// owing is the kids that matter and have not forgotten.
func (w *work) owing() []int {
	var list []int
	for _, k := range w.kids {
		if k.owes() {
			list = append(list, k.unit)
		}
	}
	return list
}

// finished tells whether nobody has to be told of a work any more.
func (w *work) finished() bool { return w.outcome != 0 && len(w.owing()) == 0 }

func (w *work) votes() []int {
	var list []int
	for _, k := range w.kids {
		list = append(list, k.vote)
	}
	return list
}

// allVoted tells whether every kid has a vote.
func (w *work) allVoted() bool { return !slices.Contains(w.votes(), 0) }

// isOpen tells whether a work is not prepared, or its votes are asked for.
func (w *work) isOpen() bool { return w.state == compare.Active || w.state == compare.Pending }
