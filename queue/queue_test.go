package queue_test

import (
	"maps"
	"math"
	"math/rand"
	"slices"
	"testing"

	"troth/api"
	"troth/queue"
)

const (
	most     = 16
	lastNext = 1 << 62
)

var numbers = []int{math.MinInt, -1, 0, 1, 2, 16, 17, lastNext - 1, lastNext, lastNext + 1, math.MaxInt}

func ok(t *testing.T, what string, e api.Errno) {
	t.Helper()
	if e != api.OK {
		t.Fatalf("%s: %v", what, e)
	}
}

func refused(t *testing.T, what string, e, want api.Errno) {
	t.Helper()
	if e != want {
		t.Fatalf("%s: %v; want %v", what, e, want)
	}
}

// in is a change that puts a value in.
func in(val uint64) api.Change { return api.Change{Kind: 3, Val: val} }

// out is a change that takes an item.
func out(number int, val uint64) api.Change { return api.Change{Kind: 4, Key: number, Val: val} }

// with is a queue of these items, the first of which has the number 1.
func with(t *testing.T, vals ...uint64) *queue.Queue {
	t.Helper()
	x := queue.New()
	for _, val := range vals {
		ok(t, "Put", x.Put(1, val))
	}
	ok(t, "Commit", x.Commit(1))
	return x
}

// loaded is a queue into which these items were laid.
func loaded(t *testing.T, next int, vals ...uint64) *queue.Queue {
	t.Helper()
	x := queue.New()
	ok(t, "Load", x.Load(vals, next))
	return x
}

// look holds the queue's next number and values against those that it should have.
func look(t *testing.T, x *queue.Queue, next int, vals ...uint64) {
	t.Helper()
	if got := x.Values(); !slices.Equal(got, vals) {
		t.Fatalf("Values = %v; want %v", got, vals)
	}
	if got := x.Next(); got != next {
		t.Fatalf("Next = %d; want %d", got, next)
	}
}

// busy holds the works from 1 to 9 that are there against those that should be.
func busy(t *testing.T, x *queue.Queue, works ...int) {
	t.Helper()
	for n := -1; n < 10; n++ {
		if got := x.Busy(n); got != slices.Contains(works, n) {
			t.Fatalf("Busy(%d) = %v; want those of %v", n, got, works)
		}
	}
}

func takes(t *testing.T, x *queue.Queue, n int, want ...uint64) {
	t.Helper()
	for _, val := range want {
		if got, e := x.Take(n); got != val || e != api.OK {
			t.Fatalf("Take(%d) = %d, %v; want %d", n, got, e, val)
		}
	}
}

func takesNone(t *testing.T, x *queue.Queue, n int, want api.Errno) {
	t.Helper()
	if got, e := x.Take(n); got != 0 || e != want {
		t.Fatalf("Take(%d) = %d, %v; want %v", n, got, e, want)
	}
}

// prepares prepares a work that should have these changes.
func prepares(t *testing.T, x *queue.Queue, n int, want ...api.Change) {
	t.Helper()
	list, e := x.Prepare(n)
	if e != api.OK || !slices.Equal(list, want) {
		t.Fatalf("Prepare(%d) = %v, %v; want %v", n, list, e, want)
	}
}

func prepareRefused(t *testing.T, x *queue.Queue, n int, want api.Errno) {
	t.Helper()
	if list, e := x.Prepare(n); len(list) != 0 || e != want {
		t.Fatalf("Prepare(%d) = %v, %v; want %v", n, list, e, want)
	}
}

// upTo is the numbers from 1 to n.
func upTo(n int) []uint64 {
	var vals []uint64
	for i := range n {
		vals = append(vals, uint64(i+1))
	}
	return vals
}

// P14.1

func TestTheExample(t *testing.T) {
	x := queue.New()
	ok(t, "Put", x.Put(1, 7))
	ok(t, "Commit", x.Commit(1))
	takes(t, x, 2, 7)
	takesNone(t, x, 3, api.ErrLocked)
	ok(t, "Backout", x.Backout(2))
	takes(t, x, 3, 7)
}

func TestNewHasNothing(t *testing.T) {
	for name, x := range map[string]*queue.Queue{"New": queue.New(), "zero": {}, "new": new(queue.Queue)} {
		if x == nil {
			t.Fatalf("%s is nil", name)
		}
		look(t, x, 1)
		busy(t, x)
		for n := 1; n < 4; n++ {
			takesNone(t, x, n, api.ErrEmpty)
			ok(t, "Commit", x.Commit(n))
			ok(t, "Backout", x.Backout(n))
			prepares(t, x, n)
			ok(t, "Restore", x.Restore(n, nil))
		}
		busy(t, x)
		ok(t, "Put", x.Put(2, 4))
		ok(t, "Commit", x.Commit(2))
		look(t, x, 2, 4)
		takes(t, x, 1, 4)
		prepares(t, x, 1, out(1, 4))
	}
}

func TestTwoQueuesAreTwo(t *testing.T) {
	x, y := queue.New(), queue.New()
	ok(t, "Put", x.Put(1, 5))
	busy(t, y)
	ok(t, "Put", y.Put(2, 6))
	ok(t, "Commit", x.Commit(1))
	look(t, y, 1)
	ok(t, "Commit", y.Commit(2))
	look(t, x, 2, 5)
	look(t, y, 2, 6)
}

func TestOfNil(t *testing.T) {
	var x *queue.Queue
	for _, n := range numbers {
		refused(t, "Put", x.Put(n, 1), api.ErrNil)
		takesNone(t, x, n, api.ErrNil)
		prepareRefused(t, x, n, api.ErrNil)
		refused(t, "Commit", x.Commit(n), api.ErrNil)
		refused(t, "Backout", x.Backout(n), api.ErrNil)
		refused(t, "Restore", x.Restore(n, nil), api.ErrNil)
		refused(t, "Restore", x.Restore(n, []api.Change{in(1)}), api.ErrNil)
		refused(t, "Load", x.Load(nil, n), api.ErrNil)
		refused(t, "Load", x.Load(upTo(17), n), api.ErrNil)
		if x.Busy(n) {
			t.Errorf("%d is there", n)
		}
	}
	look(t, x, 0)
}

func TestNumbersThatAreNone(t *testing.T) {
	x := with(t, 7)
	for _, n := range []int{0, -1, math.MinInt} {
		refused(t, "Put", x.Put(n, 1), api.ErrArg)
		takesNone(t, x, n, api.ErrArg)
		prepareRefused(t, x, n, api.ErrArg)
		refused(t, "Commit", x.Commit(n), api.ErrArg)
		refused(t, "Backout", x.Backout(n), api.ErrArg)
		refused(t, "Restore", x.Restore(n, nil), api.ErrArg)
		refused(t, "Restore", x.Restore(n, []api.Change{in(1)}), api.ErrArg)
		if x.Busy(n) {
			t.Errorf("%d is there", n)
		}
	}
	look(t, x, 2, 7)
	for _, n := range []int{1, 2, math.MaxInt} {
		ok(t, "Put", x.Put(n, math.MaxUint64))
		takes(t, x, n, 7)
		prepares(t, x, n, in(math.MaxUint64), out(1, 7))
		ok(t, "Backout", x.Backout(n))
	}
}

// ErrArg is ahead of ErrState, and that is ahead of the others.
func TestTheOrderOfErrors(t *testing.T) {
	x := with(t, upTo(14)...)
	ok(t, "Put", x.Put(1, 15))
	ok(t, "Put", x.Put(2, 16))
	takes(t, x, 2, 1)
	prepares(t, x, 1, in(15))
	refused(t, "Put", x.Put(0, 1), api.ErrArg)
	refused(t, "Put", x.Put(1, 1), api.ErrState)
	refused(t, "Put", x.Put(2, 1), api.ErrFull)
	refused(t, "Put", x.Put(3, 1), api.ErrFull)
	takesNone(t, x, 0, api.ErrArg)
	takesNone(t, x, 1, api.ErrState)
	takesNone(t, x, 3, api.ErrLocked)
	ok(t, "Backout", x.Backout(2))
	y := queue.New()
	ok(t, "Put", y.Put(1, 1))
	prepares(t, y, 1, in(1))
	takesNone(t, y, -1, api.ErrArg)
	takesNone(t, y, 1, api.ErrState)
	takesNone(t, y, 2, api.ErrEmpty)
	busy(t, x, 1)
	busy(t, y, 1)
}

func TestChangesStandOneBehindTheOther(t *testing.T) {
	x := with(t, 7, 8, 9)
	ok(t, "Put", x.Put(1, 5))
	takes(t, x, 1, 7)
	ok(t, "Put", x.Put(1, 5))
	ok(t, "Put", x.Put(1, 0))
	takes(t, x, 1, 8)
	look(t, x, 4, 7, 8, 9)
	prepares(t, x, 1, in(5), out(1, 7), in(5), in(0), out(2, 8))
	ok(t, "Commit", x.Commit(1))
	look(t, x, 7, 9, 5, 5, 0)
	takes(t, x, 2, 9, 5, 5, 0)
	takesNone(t, x, 2, api.ErrEmpty)
	prepares(t, x, 2, out(3, 9), out(4, 5), out(5, 5), out(6, 0))
}

func TestWhatIsPutIsNotTakenTillItIsCommitted(t *testing.T) {
	x := queue.New()
	ok(t, "Put", x.Put(1, 5))
	takesNone(t, x, 1, api.ErrEmpty)
	takesNone(t, x, 2, api.ErrEmpty)
	prepares(t, x, 1, in(5))
	takesNone(t, x, 2, api.ErrEmpty)
	ok(t, "Commit", x.Commit(1))
	takes(t, x, 2, 5)
	takesNone(t, x, 2, api.ErrEmpty)
	takesNone(t, x, 1, api.ErrLocked)
}

func TestTheFirstItemThatAnotherOneHasTaken(t *testing.T) {
	x := with(t, 7, 8, 9)
	takes(t, x, 1, 7)
	takesNone(t, x, 2, api.ErrLocked)
	takes(t, x, 1, 8, 9)
	takesNone(t, x, 2, api.ErrLocked)
	takesNone(t, x, 1, api.ErrEmpty)
	busy(t, x, 1)
	ok(t, "Put", x.Put(2, 6))
	ok(t, "Commit", x.Commit(2))
	takesNone(t, x, 2, api.ErrLocked)
	takes(t, x, 1, 6)
	ok(t, "Commit", x.Commit(1))
	takesNone(t, x, 2, api.ErrEmpty)
	look(t, x, 5)
}

// Whoever's the changes and the items are, sixteen are the most.
func TestThereIsNoRoomBeyondSixteen(t *testing.T) {
	for items := range most + 1 {
		for theirs := range most - items + 1 {
			x := loaded(t, 100, upTo(items)...)
			for i := range theirs {
				ok(t, "Put", x.Put(2+i%3, 50))
			}
			for range most - items - theirs {
				ok(t, "Put", x.Put(1, 60))
			}
			for n := 1; n < 6; n++ {
				refused(t, "Put", x.Put(n, 70), api.ErrFull)
			}
			if items > 0 {
				takes(t, x, 6, 1)
				refused(t, "Put of who took", x.Put(6, 1), api.ErrFull)
				ok(t, "Commit", x.Commit(6))
				ok(t, "Put", x.Put(5, 1))
				refused(t, "Put", x.Put(5, 1), api.ErrFull)
			}
			if e := x.Commit(1); e != api.OK || len(x.Values()) != most-theirs-min(items, 1) {
				t.Fatalf("Commit: %v, %v", e, x.Values())
			}
			refused(t, "Put", x.Put(1, 70), api.ErrFull)
		}
	}
}

func TestABackoutMakesRoom(t *testing.T) {
	x := with(t, upTo(10)...)
	for range 3 {
		ok(t, "Put", x.Put(1, 50))
		ok(t, "Put", x.Put(2, 50))
	}
	prepares(t, x, 2, in(50), in(50), in(50))
	refused(t, "Put", x.Put(3, 1), api.ErrFull)
	ok(t, "Backout", x.Backout(2))
	for range 3 {
		ok(t, "Put", x.Put(3, 1))
	}
	refused(t, "Put", x.Put(3, 1), api.ErrFull)
	busy(t, x, 1, 3)
}

func TestThereIsNoRoomBeyondTheGreatestNumber(t *testing.T) {
	for left := range 5 {
		x := loaded(t, lastNext-left, 8, 9)
		for i := range left {
			ok(t, "Put", x.Put(1+i%2, uint64(i)))
		}
		refused(t, "Put", x.Put(1, 1), api.ErrFull)
		refused(t, "Put", x.Put(3, 1), api.ErrFull)
		refused(t, "Restore", x.Restore(3, []api.Change{in(1)}), api.ErrArg)
		ok(t, "Restore", x.Restore(3, []api.Change{out(lastNext-left-2, 8)}))
		ok(t, "Commit", x.Commit(3))
		refused(t, "Put", x.Put(3, 1), api.ErrFull)
		ok(t, "Commit", x.Commit(1))
		ok(t, "Commit", x.Commit(2))
		want := [][]uint64{{9}, {9, 0}, {9, 0, 1}, {9, 0, 2, 1}, {9, 0, 2, 1, 3}}[left]
		look(t, x, lastNext, want...)
		refused(t, "Put", x.Put(1, 1), api.ErrFull)
		takes(t, x, 1, want...)
		list, e := x.Prepare(1)
		if ok(t, "Prepare", e); list[len(list)-1].Key != lastNext-1 {
			t.Fatalf("the changes are %v", list)
		}
		ok(t, "Commit", x.Commit(1))
		look(t, x, lastNext)
		refused(t, "Put", x.Put(1, 1), api.ErrFull)
	}
}

// P14.2

func TestPrepare(t *testing.T) {
	x := with(t, 7, 8)
	takes(t, x, 1, 7)
	ok(t, "Put", x.Put(1, 5))
	prepares(t, x, 1, out(1, 7), in(5))
	prepareRefused(t, x, 1, api.ErrState)
	prepareRefused(t, x, 1, api.ErrState)
	busy(t, x, 1)
	look(t, x, 3, 7, 8)
	takesNone(t, x, 2, api.ErrLocked)
	ok(t, "Commit", x.Commit(1))
	look(t, x, 4, 8, 5)
	busy(t, x)
	prepares(t, x, 1)
	busy(t, x)
	takes(t, x, 1, 8)
}

func TestCommit(t *testing.T) {
	for _, prepared := range []bool{false, true} {
		x := with(t, 7, 8, 9)
		takes(t, x, 1, 7, 8)
		ok(t, "Put", x.Put(1, 1))
		ok(t, "Put", x.Put(2, 2))
		ok(t, "Put", x.Put(1, 3))
		if prepared {
			prepares(t, x, 1, out(1, 7), out(2, 8), in(1), in(3))
		}
		ok(t, "Commit", x.Commit(1))
		look(t, x, 6, 9, 1, 3)
		busy(t, x, 2)
		ok(t, "Commit again", x.Commit(1))
		look(t, x, 6, 9, 1, 3)
		takes(t, x, 1, 9)
		ok(t, "Commit", x.Commit(2))
		look(t, x, 7, 9, 1, 3, 2)
		busy(t, x, 1)
		takes(t, x, 1, 1, 3, 2)
		prepares(t, x, 1, out(3, 9), out(4, 1), out(5, 3), out(6, 2))
	}
}

func TestBackout(t *testing.T) {
	for _, prepared := range []bool{false, true} {
		x := with(t, 7, 8, 9)
		takes(t, x, 1, 7, 8)
		ok(t, "Put", x.Put(1, 1))
		ok(t, "Put", x.Put(2, 2))
		if prepared {
			prepares(t, x, 1, out(1, 7), out(2, 8), in(1))
		}
		takesNone(t, x, 3, api.ErrLocked)
		ok(t, "Backout", x.Backout(1))
		look(t, x, 4, 7, 8, 9)
		busy(t, x, 2)
		ok(t, "Backout again", x.Backout(1))
		ok(t, "Commit", x.Commit(1))
		look(t, x, 4, 7, 8, 9)
		takes(t, x, 3, 7, 8, 9)
		prepares(t, x, 3, out(1, 7), out(2, 8), out(3, 9))
		prepares(t, x, 2, in(2))
	}
}

func TestABackoutLeavesWhatOthersTook(t *testing.T) {
	x := with(t, 7, 8)
	takes(t, x, 1, 7)
	ok(t, "Put", x.Put(2, 5))
	ok(t, "Backout", x.Backout(2))
	ok(t, "Backout", x.Backout(3))
	takesNone(t, x, 2, api.ErrLocked)
	ok(t, "Commit", x.Commit(3))
	takesNone(t, x, 2, api.ErrLocked)
	prepares(t, x, 1, out(1, 7))
	look(t, x, 3, 7, 8)
}

func TestRestore(t *testing.T) {
	x := with(t, 7, 7, 9)
	list := []api.Change{in(1), out(1, 7), in(0), out(2, 7), in(math.MaxUint64)}
	ok(t, "Restore", x.Restore(4, list))
	busy(t, x, 4)
	prepareRefused(t, x, 4, api.ErrState)
	refused(t, "Put", x.Put(4, 1), api.ErrState)
	takesNone(t, x, 4, api.ErrState)
	takesNone(t, x, 1, api.ErrLocked)
	look(t, x, 4, 7, 7, 9)
	y := *x
	ok(t, "Commit", x.Commit(4))
	look(t, x, 7, 9, 1, 0, math.MaxUint64)
	busy(t, x)
	takes(t, x, 1, 9, 1, 0, math.MaxUint64)
	prepares(t, x, 1, out(3, 9), out(4, 1), out(5, 0), out(6, math.MaxUint64))
	ok(t, "Backout", y.Backout(4))
	look(t, &y, 4, 7, 7, 9)
	takes(t, &y, 1, 7, 7, 9)
}

func TestRestoreOfAnEmptyList(t *testing.T) {
	for _, list := range [][]api.Change{nil, {}} {
		x := with(t, 7)
		ok(t, "Restore", x.Restore(1, list))
		busy(t, x)
		takes(t, x, 1, 7)
		refused(t, "Restore", x.Restore(1, list), api.ErrState)
		ok(t, "Restore of another one", x.Restore(2, list))
		prepares(t, x, 1, out(1, 7))
		busy(t, x, 1)
	}
}

func TestWhatIsNoListOfChanges(t *testing.T) {
	for _, bad := range [][]api.Change{
		{{}}, {{Kind: 0, Val: 1}}, {{Kind: 1, Key: 1, Val: 1}}, {{Kind: 2, Key: 1}}, {{Kind: 5}}, {{Kind: -1}}, {{Kind: math.MinInt}}, {{Kind: math.MaxInt}},
		{{Kind: 3, Key: 1, Val: 1}}, {{Kind: 3, Key: -1, Val: 1}}, {{Kind: 3, Key: 11, Val: 8}},
		{out(0, 8)}, {out(1, 8)}, {out(10, 8)}, {out(12, 9)}, {out(13, 8)}, {out(-11, 8)}, {out(11, 9)}, {out(11, 0)}, {out(math.MinInt, 8)}, {out(math.MaxInt, 8)},
		{out(11, 8), out(11, 8)}, {out(12, 9), out(11, 8)}, {out(11, 8), out(13, 8)}, {out(11, 8), in(1), out(12, 8)},
		{out(11, 8), out(12, 9), out(13, 8), out(14, 8)}, {out(11, 8), out(12, 9), out(13, 8), out(14, 1), in(1)},
	} {
		for _, list := range [][]api.Change{bad, slices.Concat([]api.Change{in(1)}, bad), slices.Concat(bad, []api.Change{in(1)})} {
			x := loaded(t, 14, 8, 9, 8)
			refused(t, "Restore", x.Restore(1, list), api.ErrArg)
			busy(t, x)
			look(t, x, 14, 8, 9, 8)
			takes(t, x, 1, 8)
			refused(t, "Restore of one that is there", x.Restore(1, list), api.ErrArg)
			refused(t, "Restore of what is taken", x.Restore(2, list), api.ErrArg)
			busy(t, x, 1)
			takes(t, x, 1, 9)
			prepares(t, x, 1, out(11, 8), out(12, 9))
		}
	}
}

func TestRestoreOfWhatIsTaken(t *testing.T) {
	x := loaded(t, 14, 8, 9, 8)
	takes(t, x, 1, 8)
	for n := 1; n < 3; n++ {
		for _, list := range [][]api.Change{{out(11, 8)}, {in(1), out(11, 8), out(12, 9)}, {out(12, 9)}} {
			refused(t, "Restore", x.Restore(n, list), api.ErrArg)
		}
	}
	busy(t, x, 1)
	ok(t, "Restore of what takes nothing", x.Restore(2, []api.Change{in(1)}))
	ok(t, "Backout", x.Backout(1))
	ok(t, "Restore", x.Restore(3, []api.Change{out(11, 8), out(12, 9)}))
	refused(t, "Restore", x.Restore(4, []api.Change{out(11, 8)}), api.ErrArg)
	refused(t, "Restore", x.Restore(4, []api.Change{out(13, 8)}), api.ErrArg)
	takesNone(t, x, 4, api.ErrLocked)
	ok(t, "Commit", x.Commit(3))
	ok(t, "Restore", x.Restore(4, []api.Change{out(13, 8)}))
	ok(t, "Commit", x.Commit(4))
	ok(t, "Commit", x.Commit(2))
	look(t, x, 15, 1)
}

func TestRestoreOfAllItems(t *testing.T) {
	vals := upTo(most)
	x := loaded(t, 17, vals...)
	var list []api.Change
	for i, val := range vals {
		list = append(list, out(i+1, val))
	}
	refused(t, "Restore of more than there are", x.Restore(1, append(slices.Clone(list), out(17, 0))), api.ErrArg)
	refused(t, "Restore of a put", x.Restore(1, append(slices.Clone(list), in(1))), api.ErrArg)
	ok(t, "Restore", x.Restore(1, list))
	takesNone(t, x, 2, api.ErrLocked)
	ok(t, "Commit", x.Commit(1))
	look(t, x, 17)
}

func TestRestoreOfMoreThanThereIsRoomFor(t *testing.T) {
	for items := range most + 1 {
		x := loaded(t, 30, upTo(items)...)
		if items < most {
			ok(t, "Put", x.Put(1, 1))
		}
		room := max(most-items-1, 0)
		list := make([]api.Change, room)
		for i := range list {
			list[i] = in(uint64(i))
		}
		refused(t, "Restore", x.Restore(2, append(slices.Clone(list), in(1))), api.ErrArg)
		refused(t, "Restore", x.Restore(1, append(slices.Clone(list), in(1))), api.ErrArg)
		if items < most {
			refused(t, "Restore", x.Restore(1, list), api.ErrState)
		}
		ok(t, "Restore", x.Restore(2, list))
		refused(t, "Put", x.Put(3, 1), api.ErrFull)
		ok(t, "Commit", x.Commit(2))
		if got := len(x.Values()); got != items+room || x.Next() != 30+room {
			t.Fatalf("%d items, %d", got, x.Next())
		}
	}
	x := queue.New()
	refused(t, "Restore", x.Restore(1, slices.Repeat([]api.Change{in(1)}, 100000)), api.ErrArg)
	ok(t, "Restore", x.Restore(1, slices.Repeat([]api.Change{in(1)}, most)))
}

func TestRestoreOfOneThatIsThere(t *testing.T) {
	for name, begin := range map[string]func(x *queue.Queue){
		"put":      func(x *queue.Queue) { ok(t, "Put", x.Put(1, 3)) },
		"prepared": func(x *queue.Queue) { ok(t, "Put", x.Put(1, 3)); prepares(t, x, 1, in(3)) },
		"restored": func(x *queue.Queue) { ok(t, "Restore", x.Restore(1, []api.Change{in(3)})) },
	} {
		x := with(t, 7)
		begin(x)
		refused(t, name, x.Restore(1, []api.Change{in(4), out(1, 7)}), api.ErrState)
		refused(t, name, x.Restore(1, []api.Change{in(4), out(1, 8)}), api.ErrArg)
		refused(t, name, x.Restore(1, nil), api.ErrState)
		busy(t, x, 1)
		takes(t, x, 2, 7)
		ok(t, "Commit", x.Commit(1))
		look(t, x, 3, 7, 3)
	}
}

// P14.3

func TestLoad(t *testing.T) {
	for n := range most + 1 {
		vals := upTo(n)
		for _, next := range []int{n + 1, n + 2, 1000, lastNext - 1, lastNext} {
			x := loaded(t, next, vals...)
			look(t, x, next, vals...)
			busy(t, x)
			takes(t, x, 1, vals...)
			takesNone(t, x, 1, api.ErrEmpty)
			var want []api.Change
			for i, val := range vals {
				want = append(want, out(next-n+i, val))
			}
			prepares(t, x, 1, want...)
		}
		for _, next := range []int{math.MinInt, -1, 0, n - 1, n, lastNext + 1, math.MaxInt} {
			x := queue.New()
			refused(t, "Load", x.Load(vals, next), api.ErrArg)
			look(t, x, 1)
		}
	}
	for _, next := range numbers {
		x := queue.New()
		refused(t, "Load of too many", x.Load(upTo(most+1), next), api.ErrArg)
		refused(t, "Load of far too many", x.Load(upTo(5000), next), api.ErrArg)
		look(t, x, 1)
	}
}

func TestLoadIntoAQueueThatIsNotEmpty(t *testing.T) {
	for name, begin := range map[string]func(x *queue.Queue){
		"an item":    func(x *queue.Queue) { ok(t, "Load", x.Load([]uint64{0}, 5)) },
		"a put":      func(x *queue.Queue) { ok(t, "Put", x.Put(1, 3)) },
		"a prepared": func(x *queue.Queue) { ok(t, "Put", x.Put(1, 3)); prepares(t, x, 1, in(3)) },
		"a restored": func(x *queue.Queue) { ok(t, "Restore", x.Restore(1, []api.Change{in(3)})) },
	} {
		x := queue.New()
		begin(x)
		vals, next := x.Values(), x.Next()
		for _, n := range numbers {
			refused(t, name, x.Load(nil, n), api.ErrState)
			refused(t, name, x.Load([]uint64{1}, n), api.ErrState)
			refused(t, name, x.Load(upTo(17), n), api.ErrState)
		}
		look(t, x, next, vals...)
	}
}

func TestLoadIntoAQueueThatGotEmpty(t *testing.T) {
	x := with(t, 7, 8)
	takes(t, x, 1, 7, 8)
	refused(t, "Load", x.Load([]uint64{5}, 2), api.ErrState)
	ok(t, "Commit", x.Commit(1))
	look(t, x, 3)
	ok(t, "Load", x.Load(nil, 9))
	look(t, x, 9)
	ok(t, "Load", x.Load([]uint64{5}, 2))
	look(t, x, 2, 5)
	takes(t, x, 1, 5)
	prepares(t, x, 1, out(1, 5))
}

func TestLookingChangesNothing(t *testing.T) {
	x := with(t, 7, 8)
	takes(t, x, 1, 7)
	for range 3 {
		busy(t, x, 1)
		look(t, x, 3, 7, 8)
	}
	takes(t, x, 1, 8)
	prepares(t, x, 1, out(1, 7), out(2, 8))
}

// P14.4, P14.5, P14.6

type plainItem struct {
	number int
	val    uint64
	taker  int // 0: nobody
}

type plainWork struct {
	list     []api.Change
	prepared bool
}

// plain is a queue as its words say.
type plain struct {
	items []plainItem
	next  int
	works map[int]plainWork
}

func newPlain() *plain { return &plain{next: 1, works: map[int]plainWork{}} }

func (m *plain) copied() *plain {
	c := &plain{slices.Clone(m.items), m.next, map[int]plainWork{}}
	for n, w := range m.works {
		c.works[n] = plainWork{slices.Clone(w.list), w.prepared}
	}
	return c
}

func (m *plain) values() []uint64 {
	var vals []uint64
	for _, i := range m.items {
		vals = append(vals, i.val)
	}
	return vals
}

func (m *plain) room() int {
	due := 0
	for _, w := range m.works {
		for _, c := range w.list {
			if c.Kind == 3 {
				due++
			}
		}
	}
	return min(16-(len(m.items)+due), lastNext-(m.next+due))
}

func (m *plain) add(n int, c api.Change) {
	w := m.works[n]
	w.list = append(w.list, c)
	m.works[n] = w
}

func (m *plain) put(n int, val uint64) api.Errno {
	switch {
	case m.works[n].prepared:
		return api.ErrState
	case m.room() <= 0:
		return api.ErrFull
	}
	m.add(n, in(val))
	return api.OK
}

func (m *plain) take(n int) (uint64, api.Errno) {
	if m.works[n].prepared {
		return 0, api.ErrState
	}
	at := slices.IndexFunc(m.items, func(i plainItem) bool { return i.taker != n })
	switch {
	case at < 0:
		return 0, api.ErrEmpty
	case m.items[at].taker != 0:
		return 0, api.ErrLocked
	}
	m.items[at].taker = n
	m.add(n, out(m.items[at].number, m.items[at].val))
	return m.items[at].val, api.OK
}

func (m *plain) prepare(n int) ([]api.Change, api.Errno) {
	w, there := m.works[n]
	switch {
	case w.prepared:
		return nil, api.ErrState
	case there:
		m.works[n] = plainWork{w.list, true}
	}
	return slices.Clone(w.list), api.OK
}

func (m *plain) end(n int, commit bool) {
	if commit {
		m.items = slices.DeleteFunc(m.items, func(i plainItem) bool { return i.taker == n })
		for _, c := range m.works[n].list {
			if c.Kind == 3 {
				m.items = append(m.items, plainItem{number: m.next, val: c.Val})
				m.next++
			}
		}
	}
	for i := range m.items {
		if m.items[i].taker == n {
			m.items[i].taker = 0
		}
	}
	delete(m.works, n)
}

func (m *plain) restore(n int, list []api.Change) api.Errno {
	puts, took := 0, 0
	for _, c := range list {
		switch {
		case c.Kind == 3 && c.Key == 0:
			puts++
		case c.Kind == 4 && took < len(m.items) && m.items[took] == plainItem{number: c.Key, val: c.Val}:
			took++
		default:
			return api.ErrArg
		}
	}
	if puts > m.room() {
		return api.ErrArg
	}
	if _, there := m.works[n]; there {
		return api.ErrState
	}
	for i := range took {
		m.items[i].taker = n
	}
	if len(list) > 0 {
		m.works[n] = plainWork{slices.Clone(list), true}
	}
	return api.OK
}

func (m *plain) load(vals []uint64, next int) api.Errno {
	switch {
	case len(m.items) > 0 || len(m.works) > 0:
		return api.ErrState
	case len(vals) > 16 || next <= len(vals) || next > lastNext:
		return api.ErrArg
	}
	m.items, m.next = nil, next
	for i, val := range vals {
		m.items = append(m.items, plainItem{number: next - len(vals) + i, val: val})
	}
	return api.OK
}

// both is a queue and the plain one beside it.
type both struct {
	x queue.Queue
	m *plain
}

func newBoth() *both { return &both{m: newPlain()} }

func (b *both) put(t *testing.T, n int, val uint64) {
	t.Helper()
	refused(t, "Put", b.x.Put(n, val), b.m.put(n, val))
}

func (b *both) take(t *testing.T, n int) (uint64, api.Errno) {
	t.Helper()
	val, e := b.x.Take(n)
	want, wantE := b.m.take(n)
	if val != want || e != wantE {
		t.Fatalf("Take(%d) = %d, %v; want %d, %v", n, val, e, want, wantE)
	}
	return val, e
}

func (b *both) prepare(t *testing.T, n int) []api.Change {
	t.Helper()
	list, e := b.x.Prepare(n)
	want, wantE := b.m.prepare(n)
	if !slices.Equal(list, want) || e != wantE {
		t.Fatalf("Prepare(%d) = %v, %v; want %v, %v", n, list, e, want, wantE)
	}
	return list
}

func (b *both) end(t *testing.T, n int, commit bool) {
	t.Helper()
	if commit {
		ok(t, "Commit", b.x.Commit(n))
	} else {
		ok(t, "Backout", b.x.Backout(n))
	}
	b.m.end(n, commit)
}

func (b *both) restore(t *testing.T, n int, list []api.Change) {
	t.Helper()
	refused(t, "Restore", b.x.Restore(n, list), b.m.restore(n, list))
}

func (b *both) load(t *testing.T, vals []uint64, next int) {
	t.Helper()
	refused(t, "Load", b.x.Load(vals, next), b.m.load(vals, next))
}

// look holds all that can be asked of the queue against the plain one.
func (b *both) look(t *testing.T, works int) {
	t.Helper()
	look(t, &b.x, b.m.next, b.m.values()...)
	busy(t, &b.x, slices.Collect(maps.Keys(b.m.works))...)
	for n := 1; n <= works; n++ {
		probe := &both{x: b.x, m: b.m.copied()}
		probe.prepare(t, n)
		probe = &both{x: b.x, m: b.m.copied()}
		for e := api.OK; e == api.OK; {
			_, e = probe.take(t, n)
		}
		for range 3 {
			probe.put(t, n, 77)
		}
	}
}

// someChanges is a list that may be one of this queue's.
func (b *both) someChanges(r *rand.Rand) []api.Change {
	var list []api.Change
	at := 0
	for range r.Intn(5) {
		if r.Intn(2) == 0 || at == len(b.m.items) {
			list = append(list, in(uint64(r.Intn(9))))
			continue
		}
		i := b.m.items[at]
		list = append(list, out(i.number, i.val))
		at++
	}
	if len(list) > 0 && r.Intn(4) == 0 {
		list[r.Intn(len(list))].Key += r.Intn(3) - 1
	}
	return list
}

// step does something of what works do.
func (b *both) step(t *testing.T, r *rand.Rand, works int) {
	n := 1 + r.Intn(works)
	switch k := r.Intn(20); {
	case k < 6:
		b.put(t, n, uint64(r.Intn(9)))
	case k < 11:
		b.take(t, n)
	case k < 13:
		b.prepare(t, n)
	case k < 17:
		b.end(t, n, k > 13)
	case k < 19:
		b.restore(t, n, b.someChanges(r))
	default:
		b.load(t, upTo(r.Intn(18)), r.Intn(30))
	}
}

func TestAQueueIsWhatItsWordsSay(t *testing.T) {
	r := rand.New(rand.NewSource(141))
	for round := range 150 {
		b, works := newBoth(), 1+r.Intn(7)
		if round%5 == 0 {
			b.load(t, upTo(r.Intn(4)), lastNext-r.Intn(30))
		}
		for range 80 {
			b.step(t, r, works)
			b.look(t, works)
		}
	}
}

// All ways in which two works go at a queue of two items, five steps long.
func TestAllShortWays(t *testing.T) {
	const steps = 14 // seven for each work
	for way := range steps * steps * steps * steps * steps {
		b := newBoth()
		b.load(t, []uint64{8, 9}, 12)
		for n := way; n > 0; n /= steps {
			w, s := 1+n%2, n%steps/2
			switch {
			case s == 0:
				b.put(t, w, uint64(w))
			case s == 1:
				b.take(t, w)
			case s == 2:
				b.prepare(t, w)
			case s < 5:
				b.end(t, w, s == 3)
			case s == 5:
				b.restore(t, w, []api.Change{out(10, 8), in(5)})
			default:
				b.restore(t, w, []api.Change{in(6)})
			}
		}
		look(t, &b.x, b.m.next, b.m.values()...)
		busy(t, &b.x, slices.Collect(maps.Keys(b.m.works))...)
		if way%17 == 0 {
			b.look(t, 2)
		}
	}
}

// Behind a backout the queue is as it was; behind a commit it has just what was put, less what was taken.
func TestNothingIsLost(t *testing.T) {
	r := rand.New(rand.NewSource(142))
	commits := 0
	for range 3000 {
		begin := upTo(r.Intn(12))
		x := loaded(t, 20, begin...)
		var put, took []uint64
		for range r.Intn(12) {
			if r.Intn(2) == 0 {
				if val := uint64(100 + len(put)); x.Put(1, val) == api.OK {
					put = append(put, val)
				}
			} else if val, e := x.Take(1); e == api.OK {
				took = append(took, val)
			}
		}
		look(t, x, 20, begin...)
		if r.Intn(2) == 0 {
			x.Prepare(1)
		}
		if r.Intn(2) == 0 {
			ok(t, "Backout", x.Backout(1))
			look(t, x, 20, begin...)
			takes(t, x, 2, begin...)
			takesNone(t, x, 2, api.ErrEmpty)
			continue
		}
		commits++
		ok(t, "Commit", x.Commit(1))
		if !slices.Equal(took, begin[:len(took)]) {
			t.Fatalf("%v are taken of %v", took, begin)
		}
		left := slices.Concat(begin[len(took):], put)
		look(t, x, 20+len(put), left...)
		takes(t, x, 2, left...)
		takesNone(t, x, 2, api.ErrEmpty)
	}
	if commits == 0 {
		t.Error("nothing was committed")
	}
}

// Each value is put in once, and taken for good once, in the order in which it came to stand.
func TestWhatIsTakenComesInOrderAndOnce(t *testing.T) {
	r := rand.New(rand.NewSource(143))
	for range 60 {
		x := queue.New()
		var stood, gone []uint64 // what was committed, and what was taken for good
		put, took := map[int][]uint64{}, map[int][]uint64{}
		val := uint64(0)
		for range 400 {
			n := 1 + r.Intn(5)
			switch k := r.Intn(12); {
			case k < 4:
				if x.Put(n, val) == api.OK {
					put[n] = append(put[n], val)
					val++
				}
			case k < 8:
				if v, e := x.Take(n); e == api.OK {
					took[n] = append(took[n], v)
				}
			case k < 9:
				ok(t, "Backout", x.Backout(n))
				delete(put, n)
				delete(took, n)
			case k < 11:
				ok(t, "Commit", x.Commit(n))
				stood, gone = append(stood, put[n]...), append(gone, took[n]...)
				delete(put, n)
				delete(took, n)
			default:
				x.Prepare(n)
			}
			takers := 0
			for _, list := range took {
				if len(gone)+len(list) > len(stood) || !slices.Equal(list, stood[len(gone):len(gone)+len(list)]) {
					t.Fatalf("%v is taken, behind %v of %v", list, gone, stood)
				}
				takers++
			}
			if takers > 1 {
				t.Fatalf("items are taken by %v", took)
			}
			if !slices.Equal(gone, stood[:len(gone)]) || !slices.Equal(x.Values(), stood[len(gone):]) || x.Next() != 1+len(stood) {
				t.Fatalf("%v stands; %v is gone of %v", x.Values(), gone, stood)
			}
		}
	}
}

// What one prepared, restored in a queue of the same items, and committed, makes the same.
func TestChangesThatAreRestoredMakeTheSame(t *testing.T) {
	r := rand.New(rand.NewSource(144))
	for range 1000 {
		begin := upTo(r.Intn(most + 1))
		x, y := loaded(t, 40, begin...), loaded(t, 40, begin...)
		for range r.Intn(20) {
			if r.Intn(2) == 0 {
				x.Put(1, uint64(r.Intn(9)))
			} else {
				x.Take(1)
			}
		}
		list, e := x.Prepare(1)
		ok(t, "Prepare", e)
		ok(t, "Restore", y.Restore(2, list))
		ok(t, "Commit", x.Commit(1))
		ok(t, "Commit", y.Commit(2))
		look(t, y, x.Next(), x.Values()...)
	}
}

func TestWhatIsRefusedChangesNothing(t *testing.T) {
	b := newBoth()
	b.load(t, upTo(12), 20)
	b.take(t, 1)
	b.put(t, 2, 5)
	b.prepare(t, 2)
	for range 3 {
		b.put(t, 3, 6)
	}
	for range 2 {
		b.put(t, 3, 7)
		b.put(t, 2, 7)
		b.take(t, 2)
		b.take(t, 3)
		b.prepare(t, 2)
		b.restore(t, 4, []api.Change{in(1)})
		b.restore(t, 4, []api.Change{out(8, 1)})
		b.restore(t, 2, nil)
		b.load(t, nil, 5)
		b.look(t, 4)
	}
}

// Rules 4, 5 and 7 of the document

func TestWhatIsHandedInIsNotKept(t *testing.T) {
	x := loaded(t, 3, 7, 8)
	memory := []api.Change{in(5), out(1, 7), in(6), out(2, 8)}
	ok(t, "Restore", x.Restore(1, memory[:2]))
	if !slices.Equal(memory, []api.Change{in(5), out(1, 7), in(6), out(2, 8)}) {
		t.Fatalf("the list has become %v", memory)
	}
	memory[0], memory[1] = in(9), out(2, 8)
	ok(t, "Commit", x.Commit(1))
	look(t, x, 4, 8, 5)

	vals := []uint64{1, 2, 3, 4}
	y := loaded(t, 9, vals[:3]...)
	ok(t, "Put", y.Put(1, 5))
	ok(t, "Commit", y.Commit(1))
	if !slices.Equal(vals, []uint64{1, 2, 3, 4}) {
		t.Fatalf("the values have become %v", vals)
	}
	clear(vals)
	look(t, y, 10, 1, 2, 3, 5)
}

func TestWhatIsHandedOutIsNew(t *testing.T) {
	x := with(t, 7, 8, 9)
	vals, again := x.Values(), x.Values()
	clear(vals[:cap(vals)])
	if !slices.Equal(again, []uint64{7, 8, 9}) {
		t.Errorf("Values = %v", again)
	}
	takes(t, x, 1, 7)
	ok(t, "Put", x.Put(1, 1))
	ok(t, "Put", x.Put(1, 2))
	y := *x
	list, _ := x.Prepare(1)
	other, _ := y.Prepare(1)
	clear(list[:cap(list)])
	if !slices.Equal(other, []api.Change{out(1, 7), in(1), in(2)}) {
		t.Errorf("Prepare = %v", other)
	}
	ok(t, "Commit", x.Commit(1))
	look(t, x, 6, 8, 9, 1, 2)
}

func TestACopiedQueueIsOneOfItsOwn(t *testing.T) {
	x := with(t, 7, 8)
	ok(t, "Put", x.Put(1, 1))
	y := *x
	takes(t, x, 2, 7)
	takes(t, &y, 3, 7)
	ok(t, "Put", x.Put(1, 2))
	ok(t, "Put", y.Put(1, 3))
	z := *x
	busy(t, x, 1, 2)
	busy(t, &y, 1, 3)
	ok(t, "Commit", x.Commit(2))
	busy(t, x, 1)
	busy(t, &z, 1, 2)
	ok(t, "Backout", z.Backout(2))
	look(t, x, 3, 8)
	look(t, &y, 3, 7, 8)
	look(t, &z, 3, 7, 8)
	takes(t, &z, 4, 7)
	prepares(t, x, 1, in(1), in(2))
	prepares(t, &y, 1, in(1), in(3))
	prepares(t, &z, 1, in(1), in(2))
	ok(t, "Commit", z.Commit(1))
	ok(t, "Backout", y.Backout(1))
	look(t, x, 3, 8)
	ok(t, "Commit", x.Commit(1))
	look(t, x, 5, 8, 1, 2)
	look(t, &z, 5, 7, 8, 1, 2)
	look(t, &y, 3, 7, 8)
}

func TestACopiedQueuesChangesAreItsOwn(t *testing.T) {
	for n := range uint64(12) {
		x := queue.New()
		var list []api.Change
		for val := range n {
			ok(t, "Put", x.Put(1, val))
			list = append(list, in(val))
		}
		y := *x
		ok(t, "Put", x.Put(1, 50))
		ok(t, "Put", y.Put(1, 60))
		prepares(t, x, 1, append(slices.Clone(list), in(50))...)
		prepares(t, &y, 1, append(slices.Clone(list), in(60))...)
	}
}

func TestTheSameCallsAnswerTheSame(t *testing.T) {
	var first []api.Change
	for round := range 20 {
		r := rand.New(rand.NewSource(145))
		b := newBoth()
		var told []api.Change
		for range 200 {
			b.step(t, r, 4)
			for n := 1; n < 5; n++ {
				y := b.x
				list, _ := y.Prepare(n)
				told = append(told, list...)
			}
		}
		if round == 0 {
			first = told
		}
		if !slices.Equal(told, first) {
			t.Fatal("the same calls answer something else")
		}
	}
}

// P1: every call ends and none panics.

func TestNoCallPanics(t *testing.T) {
	some := with(t, 7, 8)
	some.Put(1, 3)
	some.Take(2)
	some.Prepare(2)
	lists := [][]api.Change{nil, {}, {{}}, {in(1)}, {out(1, 7)}, {out(1, 7), in(1), out(2, 8)}, make([]api.Change, 5000), slices.Repeat([]api.Change{in(1)}, 5000)}
	for _, a := range append(numbers, 3, 4) {
		for _, b := range numbers {
			lists = append(lists, []api.Change{{Kind: a, Key: b, Val: math.MaxUint64}})
		}
	}
	for _, x := range []*queue.Queue{nil, {}, queue.New(), some, loaded(t, lastNext, upTo(16)...), loaded(t, lastNext-1, 5)} {
		for _, n := range numbers {
			x.Put(n, math.MaxUint64)
			x.Take(n)
			x.Take(n)
			x.Busy(n)
			x.Prepare(n)
			x.Load(upTo(3), n)
			for _, list := range lists {
				x.Restore(n, list)
				x.Commit(n)
				x.Restore(n, list)
				x.Backout(n)
			}
			x.Load(nil, n)
			if next := x.Next(); x != nil && (next < 1 || next > lastNext) || len(x.Values()) > most {
				t.Fatalf("Next = %d, %v", next, x.Values())
			}
		}
	}
}
