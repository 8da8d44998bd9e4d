package lock_test

import (
	"math"
	"math/rand"
	"slices"
	"testing"

	"troth/api"
	"troth/lock"
)

var numbers = []int{math.MinInt, -1, 0, 1, 2, 64, math.MaxInt}

func ok(t *testing.T, what string, e api.Errno) {
	t.Helper()
	if e != api.OK {
		t.Fatalf("%s: %v", what, e)
	}
}

func refused(t *testing.T, what string, e, want api.Errno) {
	t.Helper()
	if e != want {
		t.Errorf("%s: %v; want %v", what, e, want)
	}
}

// one is a lock, as its words say.
type one struct {
	owner, key int
	alone      bool
}

// with is a table of these locks.
func with(t *testing.T, list ...one) *lock.Table {
	t.Helper()
	x := lock.New()
	for _, l := range list {
		ok(t, "Take", x.Take(l.owner, l.key, l.alone))
	}
	return x
}

// look holds what the table tells against the locks that it should have.
func look(t *testing.T, x *lock.Table, list ...one) {
	t.Helper()
	if n := x.Len(); n != len(list) {
		t.Fatalf("%d locks; want %d", n, len(list))
	}
	keys := map[int][]int{}
	for _, l := range list {
		keys[l.owner] = append(keys[l.owner], l.key)
		how(t, x, l.owner, l.key, true, l.alone)
	}
	for owner, want := range keys {
		slices.Sort(want)
		if got := x.Held(owner); !slices.Equal(got, want) {
			t.Fatalf("%d holds %v; want %v", owner, got, want)
		}
	}
}

func how(t *testing.T, x *lock.Table, owner, key int, holds, alone bool) {
	t.Helper()
	if h, a := x.Holds(owner, key); h != holds || a != alone {
		t.Fatalf("Holds(%d, %d) = %v, %v; want %v, %v", owner, key, h, a, holds, alone)
	}
}

func dropped(t *testing.T, x *lock.Table, owner, want int) {
	t.Helper()
	if n, e := x.Drop(owner); n != want || e != api.OK {
		t.Fatalf("Drop(%d) = %d, %v; want %d", owner, n, e, want)
	}
}

// full is 64 locks of eight owners, shared.
func full() []one {
	var list []one
	for i := range 64 {
		list = append(list, one{owner: i % 8, key: i / 8})
	}
	return list
}

// P12.1

func TestTheExample(t *testing.T) {
	x := lock.New()
	ok(t, "Take", x.Take(1, 5, false))
	ok(t, "Take", x.Take(2, 5, false))
	refused(t, "Take", x.Take(2, 5, true), api.ErrLocked)
	dropped(t, x, 1, 1)
	ok(t, "Take", x.Take(2, 5, true))
	look(t, x, one{2, 5, true})
}

func TestNewHasNoLocks(t *testing.T) {
	for name, x := range map[string]*lock.Table{"New": lock.New(), "zero": {}, "new": new(lock.Table)} {
		if x == nil {
			t.Fatalf("%s is nil", name)
		}
		look(t, x)
		for _, n := range numbers {
			if list := x.Held(n); len(list) != 0 {
				t.Fatalf("Held(%d) = %v", n, list)
			}
			how(t, x, n, n, false, false)
			dropped(t, x, n, 0)
		}
		ok(t, "Take", x.Take(3, 4, true))
		look(t, x, one{3, 4, true})
	}
}

func TestTwoTablesAreTwo(t *testing.T) {
	x, y := lock.New(), lock.New()
	ok(t, "Take", x.Take(1, 1, true))
	look(t, y)
	ok(t, "Take", y.Take(2, 1, true))
	dropped(t, x, 1, 1)
	look(t, y, one{2, 1, true})
}

func TestOfNil(t *testing.T) {
	var x *lock.Table
	for _, n := range numbers {
		refused(t, "Take", x.Take(n, n, true), api.ErrNil)
		refused(t, "Take", x.Take(n, 0, false), api.ErrNil)
		if k, e := x.Drop(n); k != 0 || e != api.ErrNil {
			t.Errorf("Drop(%d) = %d, %v", n, k, e)
		}
		if h, a := x.Holds(n, n); h || a {
			t.Errorf("Holds(%d, %d) = %v, %v", n, n, h, a)
		}
		if list := x.Held(n); len(list) != 0 {
			t.Errorf("Held(%d) = %v", n, list)
		}
	}
	if n := x.Len(); n != 0 {
		t.Errorf("Len = %d", n)
	}
}

func TestOwnersAndKeysAreAnyNumbers(t *testing.T) {
	x := lock.New()
	var list []one
	for i, owner := range numbers {
		for j, key := range numbers {
			if i == j {
				continue
			}
			ok(t, "Take", x.Take(owner, key, false))
			list = append(list, one{owner, key, false})
		}
	}
	look(t, x, list...)
	for _, n := range numbers {
		how(t, x, n, n, false, false)
		how(t, x, n, 3, false, false)
		refused(t, "Take", x.Take(n, n, true), api.ErrLocked)
	}
	dropped(t, x, 5, 0)
	dropped(t, x, math.MinInt, 6)
	dropped(t, x, math.MaxInt, 6)
	refused(t, "Take", x.Take(64, math.MinInt, true), api.ErrLocked)
	ok(t, "Take", x.Take(64, 3, true))
}

func TestAnOwnerAndAKeyAreNotMixedUp(t *testing.T) {
	x := with(t, one{1, 2, true})
	how(t, x, 2, 1, false, false)
	ok(t, "Take", x.Take(2, 1, true))
	refused(t, "Take", x.Take(2, 2, false), api.ErrLocked)
	refused(t, "Take", x.Take(1, 1, false), api.ErrLocked)
	dropped(t, x, 2, 1)
	look(t, x, one{1, 2, true})
}

// Whoever wants a key, and however it is held by another one.
func TestTwoOwnersAtAKey(t *testing.T) {
	for _, c := range []struct {
		theirs, mine bool
		want         api.Errno
	}{{false, false, api.OK}, {false, true, api.ErrLocked}, {true, false, api.ErrLocked}, {true, true, api.ErrLocked}} {
		x := with(t, one{1, 5, c.theirs})
		refused(t, "Take", x.Take(2, 5, c.mine), c.want)
		if c.want != api.OK {
			look(t, x, one{1, 5, c.theirs})
			how(t, x, 2, 5, false, false)
			continue
		}
		look(t, x, one{1, 5, c.theirs}, one{2, 5, c.mine})
	}
}

func TestTakingAgain(t *testing.T) {
	for _, first := range []bool{false, true} {
		for _, again := range []bool{false, true} {
			x := with(t, one{1, 5, first}, one{1, 5, again})
			look(t, x, one{1, 5, first || again})
			ok(t, "Take", x.Take(1, 5, false))
			look(t, x, one{1, 5, first || again})
		}
	}
}

func TestTakingAgainBesideAnother(t *testing.T) {
	x := with(t, one{1, 5, false}, one{2, 5, false})
	ok(t, "Take", x.Take(1, 5, false))
	refused(t, "Take", x.Take(1, 5, true), api.ErrLocked)
	refused(t, "Take", x.Take(2, 5, true), api.ErrLocked)
	refused(t, "Take", x.Take(3, 5, true), api.ErrLocked)
	look(t, x, one{1, 5, false}, one{2, 5, false})
	ok(t, "Take", x.Take(3, 5, false))
	look(t, x, one{1, 5, false}, one{2, 5, false}, one{3, 5, false})
}

func TestAnotherKeyIsInNobodysWay(t *testing.T) {
	x := with(t, one{1, 5, true}, one{2, 4, true}, one{1, 6, true})
	ok(t, "Take", x.Take(2, 7, true))
	ok(t, "Take", x.Take(1, 3, false))
	look(t, x, one{1, 5, true}, one{2, 4, true}, one{1, 6, true}, one{2, 7, true}, one{1, 3, false})
}

func TestAFullTable(t *testing.T) {
	x := with(t, full()...)
	look(t, x, full()...)
	for _, alone := range []bool{false, true} {
		refused(t, "Take of another owner", x.Take(8, 8, alone), api.ErrFull)
		refused(t, "Take of another key", x.Take(1, 8, alone), api.ErrFull)
	}
	refused(t, "Take of a shared key", x.Take(8, 1, false), api.ErrFull)
	refused(t, "Take of a shared key alone", x.Take(8, 1, true), api.ErrLocked)
	ok(t, "Take again", x.Take(7, 7, false))
	refused(t, "Take again alone", x.Take(7, 7, true), api.ErrLocked)
	look(t, x, full()...)
}

func TestAFullTableOfOneOwner(t *testing.T) {
	var list []one
	for i := range 64 {
		list = append(list, one{1, i, i > 0})
	}
	x := with(t, list[:63]...)
	ok(t, "Take", x.Take(1, 63, true))
	refused(t, "Take", x.Take(1, 64, false), api.ErrFull)
	refused(t, "Take", x.Take(2, 0, false), api.ErrFull)
	refused(t, "Take", x.Take(2, 0, true), api.ErrLocked)
	refused(t, "Take", x.Take(2, 5, false), api.ErrLocked)
	look(t, x, list...)
	ok(t, "Take again, alone now", x.Take(1, 0, true))
	list[0].alone = true
	look(t, x, list...)
	dropped(t, x, 1, 64)
	look(t, x)
	for i := range 64 {
		ok(t, "Take", x.Take(i, i, true))
	}
	refused(t, "Take", x.Take(0, 64, true), api.ErrFull)
	dropped(t, x, 9, 1)
	ok(t, "Take", x.Take(0, 64, true))
	refused(t, "Take", x.Take(0, 9, true), api.ErrFull)
}

// P12.2

func TestDropDropsAllOfAnOwner(t *testing.T) {
	x := with(t, one{1, 5, false}, one{2, 5, false}, one{1, 4, true}, one{2, 3, true}, one{1, 9, true})
	dropped(t, x, 3, 0)
	dropped(t, x, 5, 0)
	dropped(t, x, 1, 3)
	look(t, x, one{2, 5, false}, one{2, 3, true})
	for _, key := range []int{4, 5, 9} {
		how(t, x, 1, key, false, false)
	}
	if list := x.Held(1); len(list) != 0 {
		t.Errorf("Held(1) = %v", list)
	}
	dropped(t, x, 1, 0)
	dropped(t, x, 2, 2)
	look(t, x)
	dropped(t, x, 2, 0)
}

func TestHeldIsRising(t *testing.T) {
	keys := []int{7, math.MaxInt, -3, 0, 12, math.MinInt, 100, -1, 5}
	r := rand.New(rand.NewSource(121))
	for range 50 {
		r.Shuffle(len(keys), func(i, j int) { keys[i], keys[j] = keys[j], keys[i] })
		x := with(t, one{2, -2, true}, one{2, 6, true})
		for i, key := range keys {
			ok(t, "Take", x.Take(1, key, i%2 == 0))
		}
		if got := x.Held(1); !slices.Equal(got, []int{math.MinInt, -3, -1, 0, 5, 7, 12, 100, math.MaxInt}) {
			t.Fatalf("Held = %v", got)
		}
		if got := x.Held(2); !slices.Equal(got, []int{-2, 6}) {
			t.Fatalf("Held = %v", got)
		}
	}
}

func TestLookingChangesNothing(t *testing.T) {
	x := with(t, one{1, 5, false}, one{2, 5, false}, one{2, 6, true})
	for range 3 {
		how(t, x, 1, 6, false, false)
		how(t, x, 3, 5, false, false)
		x.Held(4)
		look(t, x, one{1, 5, false}, one{2, 5, false}, one{2, 6, true})
	}
}

// P12.3, P12.4, P12.5

// plainTable is a table as its words say.
type plainTable []one

func (m *plainTable) take(owner, key int, alone bool) api.Errno {
	mine := -1
	for i, l := range *m {
		switch {
		case l.key == key && l.owner != owner && (l.alone || alone):
			return api.ErrLocked
		case l.key == key && l.owner == owner:
			mine = i
		}
	}
	switch {
	case mine >= 0:
		(*m)[mine].alone = alone || (*m)[mine].alone
	case len(*m) == 64:
		return api.ErrFull
	default:
		*m = append(*m, one{owner, key, alone})
	}
	return api.OK
}

func (m *plainTable) drop(owner int) int {
	n := len(*m)
	*m = slices.DeleteFunc(*m, func(l one) bool { return l.owner == owner })
	return n - len(*m)
}

// noClash goes through all that the table tells.
func noClash(t *testing.T, x *lock.Table, owners, keys int) {
	t.Helper()
	for key := range keys {
		holders, alone := 0, 0
		for owner := range owners {
			h, a := x.Holds(owner, key)
			if a && !h {
				t.Fatalf("%d holds %d alone, and not at all", owner, key)
			}
			if h {
				holders++
			}
			if a {
				alone++
			}
		}
		if alone > 0 && holders > 1 {
			t.Fatalf("%d hold %d, %d of them alone", holders, key, alone)
		}
	}
}

func TestATableIsWhatItsWordsSay(t *testing.T) {
	r := rand.New(rand.NewSource(122))
	for range 150 {
		x, m := lock.New(), plainTable{}
		owners, keys, drops := 1+r.Intn(9), 1+r.Intn(20), 1+r.Intn(12)
		for range 400 {
			owner, key := r.Intn(owners), r.Intn(keys)
			if r.Intn(100) < drops {
				dropped(t, x, owner, m.drop(owner))
			} else {
				alone := r.Intn(4) == 0
				refused(t, "Take", x.Take(owner, key, alone), m.take(owner, key, alone))
			}
			look(t, x, m...)
			noClash(t, x, owners, keys)
		}
	}
}

// All ways in which three owners take and drop at two keys, four steps long.
func TestAllShortWays(t *testing.T) {
	const steps = 15 // 12 to take, 3 to drop
	for way := range steps * steps * steps * steps {
		x, m := lock.New(), plainTable{}
		for n := way; n > 0; n /= steps {
			if s := n % steps; s < 12 {
				owner, key, alone := s%3, s/3%2, s/6 == 1
				refused(t, "Take", x.Take(owner, key, alone), m.take(owner, key, alone))
			} else {
				dropped(t, x, s-12, m.drop(s-12))
			}
		}
		look(t, x, m...)
		noClash(t, x, 3, 2)
	}
}

func TestWhoeverDroppedIsInNobodysWay(t *testing.T) {
	r := rand.New(rand.NewSource(123))
	locked := 0
	for range 3000 {
		x := lock.New()
		for range r.Intn(12) {
			x.Take(r.Intn(3), r.Intn(3), r.Intn(2) == 0)
		}
		_, e := x.Drop(0)
		ok(t, "Drop", e)
		for key := range 3 {
			third, _ := x.Holds(2, key)
			want := api.OK
			if third {
				want = api.ErrLocked
				locked++
			}
			refused(t, "Take", x.Take(1, key, true), want)
		}
	}
	if locked == 0 {
		t.Error("no third one was in the way")
	}
}

func TestWhatIsRefusedChangesNothing(t *testing.T) {
	list := append([]one{{20, 20, true}}, full()[:63]...)
	x := with(t, list...)
	for range 3 {
		refused(t, "Take", x.Take(21, 20, false), api.ErrLocked)
		refused(t, "Take", x.Take(21, 20, true), api.ErrLocked)
		refused(t, "Take", x.Take(1, 0, true), api.ErrLocked)
		refused(t, "Take", x.Take(1, 30, false), api.ErrFull)
		refused(t, "Take", x.Take(1, 30, true), api.ErrFull)
		refused(t, "Take", x.Take(9, 0, false), api.ErrFull)
		look(t, x, list...)
		how(t, x, 21, 20, false, false)
		how(t, x, 1, 30, false, false)
		how(t, x, 9, 0, false, false)
	}
}

// P3 of the whole, so far as locks bear it

// Two programs speak only while they hold the turn alone: never one within what the other one says.
func TestOnlyTheOneThatHoldsTheTurnSpeaks(t *testing.T) {
	const turn = 7
	r := rand.New(rand.NewSource(124))
	x := lock.New()
	speaks, told := -1, [2]int{}
	for range 5000 {
		me := r.Intn(2)
		if r.Intn(3) == 0 {
			dropped(t, x, me, map[bool]int{true: 1}[me == speaks])
			if me == speaks {
				speaks = -1
			}
			continue
		}
		e := x.Take(me, turn, true)
		if free := speaks < 0 || speaks == me; free != (e == api.OK) {
			t.Fatalf("%d speaks, and Take(%d) = %v", speaks, me, e)
		}
		if e == api.OK {
			speaks = me
			told[me]++
		}
		how(t, x, 1-speaks, turn, false, false)
	}
	if told[0] == 0 || told[1] == 0 {
		t.Errorf("they spoke %v times", told)
	}
}

// Rules 5 and 7 of the document

func TestWhatIsHandedOutIsNew(t *testing.T) {
	x := with(t, one{1, 5, true}, one{1, 6, false}, one{1, 7, false})
	list := x.Held(1)
	again := x.Held(1)
	whole := list[:cap(list)]
	for i := range whole {
		whole[i] = 9
	}
	if !slices.Equal(again, []int{5, 6, 7}) || !slices.Equal(x.Held(1), []int{5, 6, 7}) {
		t.Errorf("Held = %v, %v", again, x.Held(1))
	}
	look(t, x, one{1, 5, true}, one{1, 6, false}, one{1, 7, false})
}

func TestACopiedTableIsOneOfItsOwn(t *testing.T) {
	for _, list := range [][]one{nil, {{1, 5, false}, {2, 5, false}, {3, 6, false}}} {
		x := with(t, list...)
		y := *x
		ok(t, "Take", x.Take(3, 6, true))
		ok(t, "Take", x.Take(4, 7, true))
		look(t, &y, list...)
		dropped(t, &y, 3, len(list)/3)
		ok(t, "Take", y.Take(9, 7, true))
		how(t, x, 3, 6, true, true)
		how(t, x, 9, 7, false, false)
		z := y
		dropped(t, &z, 9, 1)
		how(t, &y, 9, 7, true, true)
	}
}

// P1: every call ends and none panics.

func TestNoCallPanics(t *testing.T) {
	for _, x := range []*lock.Table{nil, {}, lock.New(), with(t, full()...)} {
		for _, owner := range numbers {
			for _, key := range numbers {
				x.Take(owner, key, owner > key)
				x.Take(owner, key, true)
				x.Holds(owner, key)
				x.Held(key)
			}
			if n := x.Len(); n < 0 || n > 64 {
				t.Fatalf("%d locks", n)
			}
		}
		for _, n := range numbers {
			x.Drop(n)
			x.Drop(n)
		}
	}
}
