package kv_test

import (
	"maps"
	"math"
	"math/rand"
	"slices"
	"testing"

	"troth/api"
	"troth/kv"
)

const keys = 16

var numbers = []int{math.MinInt, -1, 0, 1, 2, 15, 16, 17, math.MaxInt}

func ok(t *testing.T, what string, e api.Errno) {
	t.Helper()
	if e != api.OK {
		t.Fatalf("%s: %v", what, e)
	}
}

func refused(t *testing.T, what string, e, want api.Errno) {
	t.Helper()
	if e != want {
		t.Fatalf("%s: %v; want %v", what, e, want)
	}
}

// put is a change that gives a key a value.
func put(key int, val uint64) api.Change { return api.Change{Kind: 1, Key: key, Val: val} }

// del is a change by which a key goes.
func del(key int) api.Change { return api.Change{Kind: 2, Key: key} }

// change changes a key for a work as the change says.
func change(x *kv.Store, n int, c api.Change) api.Errno {
	if c.Kind == 1 {
		return x.Put(n, c.Key, c.Val)
	}
	return x.Del(n, c.Key)
}

// with is a store of these values, by key.
func with(t *testing.T, vals map[int]uint64) *kv.Store {
	t.Helper()
	x := kv.New()
	for key, val := range vals {
		ok(t, "Put", x.Put(1, key, val))
	}
	ok(t, "Commit", x.Commit(1))
	return x
}

// look holds the store's values against those that it should have.
func look(t *testing.T, x *kv.Store, vals map[int]uint64) {
	t.Helper()
	for key := -2; key < keys+2; key++ {
		val, there := x.Value(key)
		if want, has := vals[key]; val != want || there != has {
			t.Fatalf("Value(%d) = %d, %v; want %d, %v", key, val, there, want, has)
		}
	}
}

// busy holds the works from 1 to 9 that are there against those that should be.
func busy(t *testing.T, x *kv.Store, works ...int) {
	t.Helper()
	for n := -1; n < 10; n++ {
		if got := x.Busy(n); got != slices.Contains(works, n) {
			t.Fatalf("Busy(%d) = %v; want those of %v", n, got, works)
		}
	}
}

func gets(t *testing.T, x *kv.Store, n, key int, want uint64) {
	t.Helper()
	if val, there, e := x.Get(n, key); val != want || !there || e != api.OK {
		t.Fatalf("Get(%d, %d) = %d, %v, %v; want %d", n, key, val, there, e, want)
	}
}

func getsNone(t *testing.T, x *kv.Store, n, key int, want api.Errno) {
	t.Helper()
	if val, there, e := x.Get(n, key); val != 0 || there || e != want {
		t.Fatalf("Get(%d, %d) = %d, %v, %v; want none, %v", n, key, val, there, e, want)
	}
}

// prepares prepares a work that should have these changes.
func prepares(t *testing.T, x *kv.Store, n int, want ...api.Change) {
	t.Helper()
	list, e := x.Prepare(n)
	if e != api.OK || !slices.Equal(list, want) {
		t.Fatalf("Prepare(%d) = %v, %v; want %v", n, list, e, want)
	}
}

func prepareRefused(t *testing.T, x *kv.Store, n int, want api.Errno) {
	t.Helper()
	if list, e := x.Prepare(n); len(list) != 0 || e != want {
		t.Fatalf("Prepare(%d) = %v, %v; want %v", n, list, e, want)
	}
}

// P13.1

func TestTheExample(t *testing.T) {
	x := kv.New()
	ok(t, "Put", x.Put(1, 3, 9))
	getsNone(t, x, 2, 3, api.ErrLocked)
	ok(t, "Commit", x.Commit(1))
	gets(t, x, 2, 3, 9)
}

func TestNewHasNothing(t *testing.T) {
	for name, x := range map[string]*kv.Store{"New": kv.New(), "zero": {}, "new": new(kv.Store)} {
		if x == nil {
			t.Fatalf("%s is nil", name)
		}
		look(t, x, nil)
		busy(t, x)
		for n := 1; n < 4; n++ {
			ok(t, "Commit", x.Commit(n))
			ok(t, "Backout", x.Backout(n))
			prepares(t, x, n)
			ok(t, "Restore", x.Restore(n, nil))
		}
		for key := range keys {
			getsNone(t, x, 1, key, api.OK)
		}
		ok(t, "Put", x.Put(1, 3, 4))
		ok(t, "Commit", x.Commit(1))
		look(t, x, map[int]uint64{3: 4})
	}
}

func TestTwoStoresAreTwo(t *testing.T) {
	x, y := kv.New(), kv.New()
	ok(t, "Put", x.Put(1, 1, 5))
	busy(t, y)
	ok(t, "Put", y.Put(2, 1, 6))
	ok(t, "Commit", x.Commit(1))
	look(t, y, nil)
	ok(t, "Commit", y.Commit(2))
	look(t, x, map[int]uint64{1: 5})
	look(t, y, map[int]uint64{1: 6})
}

func TestOfNil(t *testing.T) {
	var x *kv.Store
	for _, n := range numbers {
		for _, key := range numbers {
			getsNone(t, x, n, key, api.ErrNil)
			refused(t, "Put", x.Put(n, key, 1), api.ErrNil)
			refused(t, "Del", x.Del(n, key), api.ErrNil)
		}
		prepareRefused(t, x, n, api.ErrNil)
		refused(t, "Commit", x.Commit(n), api.ErrNil)
		refused(t, "Backout", x.Backout(n), api.ErrNil)
		refused(t, "Restore", x.Restore(n, nil), api.ErrNil)
		refused(t, "Restore", x.Restore(n, []api.Change{put(1, 1)}), api.ErrNil)
		if val, there := x.Value(n); val != 0 || there || x.Busy(n) {
			t.Errorf("Value(%d) = %d, %v", n, val, there)
		}
	}
}

func TestNumbersThatAreNone(t *testing.T) {
	x := with(t, map[int]uint64{0: 7, 15: 8})
	for _, n := range numbers {
		for _, key := range numbers {
			if n >= 1 && 0 <= key && key < keys {
				continue
			}
			getsNone(t, x, n, key, api.ErrArg)
			refused(t, "Put", x.Put(n, key, 1), api.ErrArg)
			refused(t, "Del", x.Del(n, key), api.ErrArg)
		}
		if n < 1 {
			prepareRefused(t, x, n, api.ErrArg)
			refused(t, "Commit", x.Commit(n), api.ErrArg)
			refused(t, "Backout", x.Backout(n), api.ErrArg)
			refused(t, "Restore", x.Restore(n, nil), api.ErrArg)
			refused(t, "Restore", x.Restore(n, []api.Change{put(1, 1)}), api.ErrArg)
		}
		if x.Busy(n) {
			t.Errorf("%d is there", n)
		}
	}
	look(t, x, map[int]uint64{0: 7, 15: 8})
}

func TestTheEdgesOfKeysAndWorks(t *testing.T) {
	for _, n := range []int{1, 2, math.MaxInt} {
		x := kv.New()
		for _, key := range []int{0, 15} {
			ok(t, "Put", x.Put(n, key, math.MaxUint64))
			gets(t, x, n, key, math.MaxUint64)
		}
		prepares(t, x, n, put(0, math.MaxUint64), put(15, math.MaxUint64))
		if !x.Busy(n) {
			t.Fatalf("%d is not there", n)
		}
		ok(t, "Commit", x.Commit(n))
		look(t, x, map[int]uint64{0: math.MaxUint64, 15: math.MaxUint64})
	}
}

// ErrArg is ahead of ErrState, and that is ahead of the lock's error.
func TestTheOrderOfErrors(t *testing.T) {
	x := kv.New()
	ok(t, "Put", x.Put(1, 3, 9))
	ok(t, "Put", x.Put(2, 4, 9))
	prepares(t, x, 1, put(3, 9))
	getsNone(t, x, 1, 16, api.ErrArg)
	refused(t, "Put", x.Put(1, -1, 1), api.ErrArg)
	refused(t, "Del", x.Del(1, 16), api.ErrArg)
	for key := range keys {
		getsNone(t, x, 1, key, api.ErrState)
		refused(t, "Put", x.Put(1, key, 1), api.ErrState)
		refused(t, "Del", x.Del(1, key), api.ErrState)
	}
	getsNone(t, x, 2, 3, api.ErrLocked)
	refused(t, "Put", x.Put(2, 3, 1), api.ErrLocked)
	refused(t, "Del", x.Del(2, 3), api.ErrLocked)
	look(t, x, nil)
	busy(t, x, 1, 2)
}

func TestGetTellsTheWorksChange(t *testing.T) {
	x := with(t, map[int]uint64{3: 9, 4: 0, 5: 6})
	gets(t, x, 1, 3, 9)
	gets(t, x, 1, 4, 0)
	getsNone(t, x, 1, 6, api.OK)
	ok(t, "Put", x.Put(1, 3, 10))
	ok(t, "Put", x.Put(1, 6, 0))
	ok(t, "Del", x.Del(1, 5))
	ok(t, "Del", x.Del(1, 7))
	gets(t, x, 1, 3, 10)
	gets(t, x, 1, 4, 0)
	gets(t, x, 1, 6, 0)
	getsNone(t, x, 1, 5, api.OK)
	getsNone(t, x, 1, 7, api.OK)
	look(t, x, map[int]uint64{3: 9, 4: 0, 5: 6})
	prepares(t, x, 1, put(3, 10), put(6, 0), del(5), del(7))
}

func TestAChangeStandsInThePlaceOfTheKeysFirst(t *testing.T) {
	x := with(t, map[int]uint64{3: 9})
	for _, c := range []api.Change{put(5, 1), del(3), put(0, 2), put(3, 4), del(5), put(15, 0), put(5, 6), put(5, 7), del(0)} {
		ok(t, "change", change(x, 1, c))
	}
	gets(t, x, 1, 3, 4)
	gets(t, x, 1, 5, 7)
	getsNone(t, x, 1, 0, api.OK)
	prepares(t, x, 1, put(5, 7), put(3, 4), del(0), put(15, 0))
	ok(t, "Commit", x.Commit(1))
	look(t, x, map[int]uint64{3: 4, 5: 7, 15: 0})
}

// Whatever one did with a key, and what another one wants of it.
func TestTwoWorksAtAKey(t *testing.T) {
	for _, c := range []struct{ shared, alone api.Errno }{{api.OK, api.ErrLocked}, {api.ErrLocked, api.ErrLocked}} {
		for theirs := range 2 {
			x := with(t, map[int]uint64{3: 9})
			switch {
			case c.shared == api.OK:
				gets(t, x, 1, 3, 9)
			case theirs == 0:
				ok(t, "Put", x.Put(1, 3, 9))
			default:
				ok(t, "Del", x.Del(1, 3))
			}
			refused(t, "Put", x.Put(2, 3, 5), c.alone)
			refused(t, "Del", x.Del(2, 3), c.alone)
			busy(t, x, 1)
			_, there, e := x.Get(2, 3)
			if refused(t, "Get", e, c.shared); there != (e == api.OK) {
				t.Fatalf("Get tells %v beside %v", there, e)
			}
			refused(t, "Put", x.Put(2, 4, 5), api.OK)
			busy(t, x, 1, 2)
			look(t, x, map[int]uint64{3: 9})
		}
	}
}

func TestAReaderMayChangeIfNoOtherReads(t *testing.T) {
	x := with(t, map[int]uint64{3: 9})
	gets(t, x, 1, 3, 9)
	gets(t, x, 2, 3, 9)
	refused(t, "Put", x.Put(1, 3, 1), api.ErrLocked)
	refused(t, "Del", x.Del(2, 3), api.ErrLocked)
	ok(t, "Backout", x.Backout(2))
	ok(t, "Put", x.Put(1, 3, 1))
	gets(t, x, 1, 3, 1)
	getsNone(t, x, 2, 3, api.ErrLocked)
	prepares(t, x, 1, put(3, 1))
}

// sixtyFour is a store in which four works have read all keys.
func sixtyFour(t *testing.T) *kv.Store {
	t.Helper()
	x := with(t, map[int]uint64{0: 5})
	for n := 1; n < 5; n++ {
		for key := range keys {
			_, _, e := x.Get(n, key)
			ok(t, "Get", e)
		}
	}
	return x
}

func TestTheTableOfLocksIsFull(t *testing.T) {
	x := sixtyFour(t)
	for key := range keys {
		getsNone(t, x, 5, key, api.ErrFull)
		refused(t, "Put", x.Put(5, key, 1), api.ErrLocked)
		refused(t, "Restore", x.Restore(5, []api.Change{put(key, 1)}), api.ErrLocked)
	}
	gets(t, x, 4, 0, 5)
	busy(t, x, 1, 2, 3, 4)
	prepares(t, x, 3)
	busy(t, x, 1, 2, 4)
	gets(t, x, 5, 0, 5)
	busy(t, x, 1, 2, 4, 5)
}

// P13.2

func TestPrepare(t *testing.T) {
	x := with(t, map[int]uint64{3: 9, 4: 8})
	gets(t, x, 1, 4, 8)
	ok(t, "Put", x.Put(1, 3, 1))
	prepares(t, x, 1, put(3, 1))
	prepareRefused(t, x, 1, api.ErrState)
	prepareRefused(t, x, 1, api.ErrState)
	busy(t, x, 1)
	look(t, x, map[int]uint64{3: 9, 4: 8})
	getsNone(t, x, 2, 3, api.ErrLocked)
	refused(t, "Put of what it read", x.Put(2, 4, 1), api.ErrLocked)
	ok(t, "Commit", x.Commit(1))
	look(t, x, map[int]uint64{3: 1, 4: 8})
	busy(t, x)
	prepares(t, x, 1)
}

func TestWhoHasNoChangesIsNotPrepared(t *testing.T) {
	x := with(t, map[int]uint64{3: 9})
	gets(t, x, 1, 3, 9)
	getsNone(t, x, 1, 4, api.OK)
	busy(t, x, 1)
	prepares(t, x, 1)
	busy(t, x)
	ok(t, "Put", x.Put(2, 3, 1))
	ok(t, "Del", x.Del(2, 4))
	prepares(t, x, 1)
	getsNone(t, x, 1, 0, api.OK)
	busy(t, x, 1, 2)
}

func TestCommit(t *testing.T) {
	for _, prepared := range []bool{false, true} {
		x := with(t, map[int]uint64{3: 9, 4: 8, 5: 7})
		ok(t, "Put", x.Put(1, 3, 1))
		ok(t, "Del", x.Del(1, 4))
		ok(t, "Put", x.Put(1, 6, 0))
		ok(t, "Del", x.Del(1, 7))
		gets(t, x, 1, 5, 7)
		ok(t, "Put", x.Put(2, 8, 3))
		if prepared {
			prepares(t, x, 1, put(3, 1), del(4), put(6, 0), del(7))
		}
		ok(t, "Commit", x.Commit(1))
		look(t, x, map[int]uint64{3: 1, 5: 7, 6: 0})
		busy(t, x, 2)
		for _, key := range []int{3, 4, 5, 6, 7} {
			ok(t, "Put", x.Put(3, key, 2))
		}
		ok(t, "Commit again", x.Commit(1))
		look(t, x, map[int]uint64{3: 1, 5: 7, 6: 0})
		prepares(t, x, 2, put(8, 3))
	}
}

func TestBackout(t *testing.T) {
	for _, prepared := range []bool{false, true} {
		vals := map[int]uint64{3: 9, 4: 8, 5: 7}
		x := with(t, vals)
		ok(t, "Put", x.Put(1, 3, 1))
		ok(t, "Del", x.Del(1, 4))
		ok(t, "Put", x.Put(1, 6, 2))
		gets(t, x, 1, 5, 7)
		ok(t, "Put", x.Put(2, 8, 3))
		if prepared {
			prepares(t, x, 1, put(3, 1), del(4), put(6, 2))
		}
		ok(t, "Backout", x.Backout(1))
		look(t, x, vals)
		busy(t, x, 2)
		for _, key := range []int{3, 4, 5, 6} {
			ok(t, "Put", x.Put(3, key, 2))
		}
		ok(t, "Backout again", x.Backout(1))
		ok(t, "Commit", x.Commit(1))
		look(t, x, vals)
		prepares(t, x, 2, put(8, 3))
	}
}

func TestAWorkBeginsAnew(t *testing.T) {
	x := kv.New()
	for round := range uint64(3) {
		ok(t, "Put", x.Put(1, 3, round))
		prepares(t, x, 1, put(3, round))
		ok(t, "Commit", x.Commit(1))
		ok(t, "Put", x.Put(1, 4, round))
		prepares(t, x, 1, put(4, round))
		ok(t, "Backout", x.Backout(1))
		look(t, x, map[int]uint64{3: round})
		busy(t, x)
	}
}

func TestRestore(t *testing.T) {
	x := with(t, map[int]uint64{3: 9, 4: 8})
	list := []api.Change{del(15), put(3, 1), del(4), put(0, math.MaxUint64), del(7), put(8, 0)}
	ok(t, "Restore", x.Restore(1, list))
	busy(t, x, 1)
	prepareRefused(t, x, 1, api.ErrState)
	look(t, x, map[int]uint64{3: 9, 4: 8})
	for _, c := range list {
		getsNone(t, x, 1, c.Key, api.ErrState)
		getsNone(t, x, 2, c.Key, api.ErrLocked)
		refused(t, "Put", x.Put(2, c.Key, 1), api.ErrLocked)
	}
	ok(t, "Put of another key", x.Put(2, 9, 1))
	ok(t, "Commit", x.Commit(1))
	look(t, x, map[int]uint64{0: math.MaxUint64, 3: 1, 8: 0})
	busy(t, x, 2)
}

func TestRestoreOfAllKeys(t *testing.T) {
	x := kv.New()
	var list []api.Change
	want := map[int]uint64{}
	for key := range keys {
		list = append(list, put(keys-1-key, uint64(key)))
		want[keys-1-key] = uint64(key)
	}
	refused(t, "Restore of one more", x.Restore(1, append(slices.Clone(list), del(0))), api.ErrArg)
	refused(t, "Restore of all twice", x.Restore(1, slices.Concat(list, list)), api.ErrArg)
	ok(t, "Restore", x.Restore(1, list))
	ok(t, "Commit", x.Commit(1))
	look(t, x, want)
}

func TestRestoreOfAnEmptyList(t *testing.T) {
	for _, list := range [][]api.Change{nil, {}} {
		x := with(t, map[int]uint64{3: 9})
		ok(t, "Restore", x.Restore(1, list))
		busy(t, x)
		prepares(t, x, 1)
		gets(t, x, 1, 3, 9)
		refused(t, "Restore", x.Restore(1, list), api.ErrState)
		ok(t, "Put", x.Put(2, 4, 1))
		refused(t, "Restore", x.Restore(2, list), api.ErrState)
		busy(t, x, 1, 2)
	}
}

func TestWhatIsNoListOfChanges(t *testing.T) {
	for _, bad := range [][]api.Change{
		{{}}, {{Kind: 0, Key: 1, Val: 1}}, {{Kind: 3, Val: 1}}, {{Kind: 4, Key: 1, Val: 1}}, {{Kind: -1, Key: 1}},
		{{Kind: math.MaxInt, Key: 1}}, {{Kind: math.MinInt, Key: 1}},
		{put(-1, 1)}, {put(16, 1)}, {del(-1)}, {del(16)}, {put(math.MaxInt, 1)}, {del(math.MinInt)},
		{{Kind: 2, Key: 1, Val: 1}}, {{Kind: 2, Key: 1, Val: math.MaxUint64}},
		{put(1, 1), put(1, 1)}, {put(1, 1), del(1)}, {del(1), put(2, 2), put(1, 1)}, {del(1), del(1)}, {put(0, 0), put(0, 0)},
	} {
		for _, list := range [][]api.Change{bad, slices.Concat([]api.Change{put(5, 5)}, bad), slices.Concat(bad, []api.Change{del(6)})} {
			x := with(t, map[int]uint64{3: 9, 1: 4})
			refused(t, "Restore", x.Restore(1, list), api.ErrArg)
			busy(t, x)
			gets(t, x, 1, 3, 9)
			refused(t, "Restore of one that is there", x.Restore(1, list), api.ErrArg)
			ok(t, "Put", x.Put(2, 5, 1))
			refused(t, "Restore of what is locked", x.Restore(3, list), api.ErrArg)
			busy(t, x, 1, 2)
			look(t, x, map[int]uint64{3: 9, 1: 4})
		}
	}
}

func TestRestoreOfOneThatIsThere(t *testing.T) {
	list := []api.Change{put(8, 1)}
	for name, begin := range map[string]func(x *kv.Store){
		"locks":    func(x *kv.Store) { gets(t, x, 1, 3, 9) },
		"changes":  func(x *kv.Store) { ok(t, "Put", x.Put(1, 3, 1)) },
		"prepared": func(x *kv.Store) { ok(t, "Put", x.Put(1, 3, 1)); prepares(t, x, 1, put(3, 1)) },
		"restored": func(x *kv.Store) { ok(t, "Restore", x.Restore(1, []api.Change{put(3, 1)})) },
	} {
		x := with(t, map[int]uint64{3: 9})
		begin(x)
		refused(t, name, x.Restore(1, list), api.ErrState)
		refused(t, name, x.Restore(1, []api.Change{put(3, 7)}), api.ErrState)
		ok(t, "Put of another one", x.Put(2, 8, 2))
		refused(t, name, x.Restore(1, list), api.ErrState)
		busy(t, x, 1, 2)
		ok(t, "Commit", x.Commit(1))
		want := map[int]uint64{3: 1}
		if name == "locks" {
			want[3] = 9
		}
		look(t, x, want)
	}
}

func TestRestoreOfWhatIsLocked(t *testing.T) {
	list := []api.Change{put(3, 1), del(4), put(5, 1)}
	for _, key := range []int{3, 4, 5} {
		for _, reads := range []bool{false, true} {
			x := with(t, map[int]uint64{3: 9, 4: 9, 5: 9})
			if reads {
				gets(t, x, 2, key, 9)
			} else {
				ok(t, "Put", x.Put(2, key, 2))
			}
			refused(t, "Restore", x.Restore(1, list), api.ErrLocked)
			busy(t, x, 2)
			look(t, x, map[int]uint64{3: 9, 4: 9, 5: 9})
			for _, free := range []int{3, 4, 5} {
				if free != key {
					ok(t, "Put of a lock that went", x.Put(3, free, 1))
				}
			}
			refused(t, "Put of what is held", x.Put(3, key, 1), api.ErrLocked)
			ok(t, "Backout", x.Backout(3))
			ok(t, "Commit", x.Commit(2))
			ok(t, "Restore", x.Restore(1, list))
		}
	}
}

// Works 1 to 4 hold 63 locks, and the keys 14 and 15 are free but for one.
func TestRestoreWhereTheTableGetsFull(t *testing.T) {
	x := with(t, map[int]uint64{0: 5})
	for n := 1; n < 6; n++ {
		for key := range 14 {
			if n < 5 || key < 6 {
				_, _, e := x.Get(n, key)
				ok(t, "Get", e)
			}
		}
	}
	ok(t, "Put", x.Put(6, 14, 1)) // the 63rd
	for _, list := range [][]api.Change{{put(15, 1), put(14, 2)}, {put(15, 1), put(0, 1)}, {put(14, 1), put(15, 1)}} {
		refused(t, "Restore", x.Restore(7, list), api.ErrLocked)
		busy(t, x, 1, 2, 3, 4, 5, 6)
	}
	getsNone(t, x, 6, 15, api.OK) // the 64th
	refused(t, "Restore", x.Restore(7, []api.Change{put(15, 1)}), api.ErrLocked)
	ok(t, "Backout", x.Backout(6))
	refused(t, "Put", x.Put(8, 14, 1), api.OK)
	ok(t, "Backout", x.Backout(8))
	_, _, e := x.Get(5, 6)
	ok(t, "Get", e) // the 63rd
	refused(t, "Restore of one too many", x.Restore(7, []api.Change{put(15, 1), put(14, 2)}), api.ErrFull)
	refused(t, "Restore of one too many", x.Restore(7, []api.Change{put(15, 1), put(14, 2), put(0, 1)}), api.ErrFull)
	refused(t, "Restore of one locked", x.Restore(7, []api.Change{put(15, 1), put(0, 2), put(14, 1)}), api.ErrLocked)
	busy(t, x, 1, 2, 3, 4, 5)
	ok(t, "Restore of one", x.Restore(7, []api.Change{put(15, 1)}))
	refused(t, "Put", x.Put(8, 14, 1), api.ErrFull)
	busy(t, x, 1, 2, 3, 4, 5, 7)
}

// P13.3

func TestValueIsTheStores(t *testing.T) {
	x := with(t, map[int]uint64{0: 1, 15: 0})
	ok(t, "Put", x.Put(1, 0, 2))
	ok(t, "Put", x.Put(1, 1, 2))
	ok(t, "Del", x.Del(1, 15))
	look(t, x, map[int]uint64{0: 1, 15: 0})
	for _, key := range numbers {
		if val, there := x.Value(key); key != 0 && key != 15 && (val != 0 || there) {
			t.Errorf("Value(%d) = %d, %v", key, val, there)
		}
	}
	prepares(t, x, 1, put(0, 2), put(1, 2), del(15))
	look(t, x, map[int]uint64{0: 1, 15: 0})
	ok(t, "Commit", x.Commit(1))
	look(t, x, map[int]uint64{0: 2, 1: 2})
}

func TestLookingChangesNothing(t *testing.T) {
	x := with(t, map[int]uint64{3: 9})
	ok(t, "Put", x.Put(1, 3, 1))
	for range 3 {
		x.Value(3)
		busy(t, x, 1)
		look(t, x, map[int]uint64{3: 9})
	}
	ok(t, "Put", x.Put(2, 4, 1))
	prepares(t, x, 1, put(3, 1))
}

// P13.4, P13.5, P13.6

// plainWork is a work as its words say; its locks are by key, alone or not.
type plainWork struct {
	list     []api.Change
	locks    map[int]bool
	prepared bool
}

// plain is a store as its words say.
type plain struct {
	vals  map[int]uint64
	works map[int]plainWork
}

// answer is what a call answers.
type answer struct {
	val   uint64
	there bool
	e     api.Errno
}

func newPlain() *plain { return &plain{vals: map[int]uint64{}, works: map[int]plainWork{}} }

func (m *plain) copied() *plain {
	c := &plain{vals: maps.Clone(m.vals), works: map[int]plainWork{}}
	for n, w := range m.works {
		c.works[n] = plainWork{slices.Clone(w.list), maps.Clone(w.locks), w.prepared}
	}
	return c
}

func (m *plain) take(n, key int, alone bool) api.Errno {
	all := 0
	for other, w := range m.works {
		all += len(w.locks)
		if theirs, held := w.locks[key]; held && other != n && (alone || theirs) {
			return api.ErrLocked
		}
	}
	mine, held := m.works[n].locks[key]
	if !held && all == 64 {
		return api.ErrFull
	}
	w := m.works[n]
	if w.locks == nil {
		w.locks = map[int]bool{}
	}
	w.locks[key] = mine || alone
	m.works[n] = w
	return api.OK
}

func (m *plain) get(n, key int) answer {
	if m.works[n].prepared {
		return answer{e: api.ErrState}
	}
	if e := m.take(n, key, false); e != api.OK {
		return answer{e: e}
	}
	for _, c := range m.works[n].list {
		if c.Key == key {
			return answer{c.Val, c.Kind == 1, api.OK}
		}
	}
	val, there := m.vals[key]
	return answer{val, there, api.OK}
}

func (m *plain) change(n int, c api.Change) api.Errno {
	if m.works[n].prepared {
		return api.ErrState
	}
	if e := m.take(n, c.Key, true); e != api.OK {
		return e
	}
	w := m.works[n]
	for i := range w.list {
		if w.list[i].Key == c.Key {
			w.list[i] = c
			return api.OK
		}
	}
	w.list = append(w.list, c)
	m.works[n] = w
	return api.OK
}

func (m *plain) prepare(n int) ([]api.Change, api.Errno) {
	w := m.works[n]
	switch {
	case w.prepared:
		return nil, api.ErrState
	case len(w.list) == 0:
		delete(m.works, n)
		return nil, api.OK
	}
	w.prepared = true
	m.works[n] = w
	return slices.Clone(w.list), api.OK
}

func (m *plain) end(n int, commit bool) {
	for _, c := range m.works[n].list {
		if commit && c.Kind == 1 {
			m.vals[c.Key] = c.Val
		} else if commit {
			delete(m.vals, c.Key)
		}
	}
	delete(m.works, n)
}

// restore is of a list that has no two changes of a key.
func (m *plain) restore(n int, list []api.Change) api.Errno {
	if _, there := m.works[n]; there {
		return api.ErrState
	}
	for _, c := range list {
		if e := m.take(n, c.Key, true); e != api.OK {
			delete(m.works, n)
			return e
		}
	}
	if len(list) > 0 {
		m.works[n] = plainWork{slices.Clone(list), m.works[n].locks, true}
	}
	return api.OK
}

// both is a store and the plain one beside it.
type both struct {
	x kv.Store
	m *plain
}

func newBoth() *both { return &both{m: newPlain()} }

func (b *both) get(t *testing.T, n, key int) answer {
	t.Helper()
	val, there, e := b.x.Get(n, key)
	got := answer{val, there, e}
	if want := b.m.get(n, key); got != want {
		t.Fatalf("Get(%d, %d) = %v; want %v", n, key, got, want)
	}
	return got
}

func (b *both) change(t *testing.T, n int, c api.Change) {
	t.Helper()
	refused(t, "change", change(&b.x, n, c), b.m.change(n, c))
}

func (b *both) prepare(t *testing.T, n int) {
	t.Helper()
	list, e := b.x.Prepare(n)
	want, wantE := b.m.prepare(n)
	if !slices.Equal(list, want) || e != wantE {
		t.Fatalf("Prepare(%d) = %v, %v; want %v, %v", n, list, e, want, wantE)
	}
}

func (b *both) end(t *testing.T, n int, commit bool) {
	t.Helper()
	if commit {
		ok(t, "Commit", b.x.Commit(n))
	} else {
		ok(t, "Backout", b.x.Backout(n))
	}
	b.m.end(n, commit)
}

func (b *both) restore(t *testing.T, n int, list []api.Change) {
	t.Helper()
	refused(t, "Restore", b.x.Restore(n, list), b.m.restore(n, list))
}

// look holds all that can be asked of the store against the plain one.
func (b *both) look(t *testing.T, works, keys int) {
	t.Helper()
	look(t, &b.x, b.m.vals)
	busy(t, &b.x, slices.Collect(maps.Keys(b.m.works))...)
	for n := 1; n <= works; n++ {
		probe := &both{x: b.x, m: b.m.copied()}
		probe.prepare(t, n)
		probe = &both{x: b.x, m: b.m.copied()}
		for key := range keys {
			probe.get(t, n, key)
		}
		probe = &both{x: b.x, m: b.m.copied()}
		for key := range keys {
			probe.change(t, n, put(key, 77))
		}
	}
}

// someChanges is a list of changes of different keys.
func someChanges(r *rand.Rand, keys int) []api.Change {
	var list []api.Change
	for _, key := range r.Perm(keys)[:r.Intn(keys+1)] {
		c := put(key, r.Uint64()>>(r.Intn(64)))
		if r.Intn(3) == 0 {
			c = del(key)
		}
		list = append(list, c)
	}
	return list
}

// step does something of what works do.
func (b *both) step(t *testing.T, r *rand.Rand, works, keys int) {
	n, key := 1+r.Intn(works), r.Intn(keys)
	switch k := r.Intn(20); {
	case k < 6:
		b.get(t, n, key)
	case k < 11:
		b.change(t, n, put(key, uint64(r.Intn(5))))
	case k < 13:
		b.change(t, n, del(key))
	case k < 15:
		b.prepare(t, n)
	case k < 18:
		b.end(t, n, k > 15)
	default:
		b.restore(t, n, someChanges(r, min(keys, 3)))
	}
}

func TestAStoreIsWhatItsWordsSay(t *testing.T) {
	r := rand.New(rand.NewSource(131))
	for range 120 {
		b, works, some := newBoth(), 1+r.Intn(7), 1+r.Intn(keys)
		for range 60 {
			b.step(t, r, works, some)
			b.look(t, works, some)
		}
	}
}

// Many works that seldom end, so that the table of locks gets full.
func TestManyWorks(t *testing.T) {
	r := rand.New(rand.NewSource(132))
	full := 0
	for range 10 {
		b := newBoth()
		for range 600 {
			n, key := 1+r.Intn(9), r.Intn(keys)
			switch k := r.Intn(60); {
			case k == 0:
				b.end(t, n, true)
			case k < 3:
				b.change(t, n, put(key, 1))
			default:
				if b.get(t, n, key).e == api.ErrFull {
					full++
				}
			}
		}
		b.look(t, 9, keys)
	}
	if full == 0 {
		t.Error("no table of locks was full")
	}
}

// All ways in which two works go at two keys, four steps long.
func TestAllShortWays(t *testing.T) {
	const steps = 22 // eleven for each work
	for way := range steps * steps * steps * steps {
		b := newBoth()
		for n := way; n > 0; n /= steps {
			w, s := 1+n%2, n%steps/2
			switch {
			case s < 2:
				b.get(t, w, s)
			case s < 4:
				b.change(t, w, put(s-2, uint64(w)))
			case s < 6:
				b.change(t, w, del(s-4))
			case s == 6:
				b.prepare(t, w)
			case s < 9:
				b.end(t, w, s == 7)
			case s == 9:
				b.restore(t, w, []api.Change{put(1, 5), del(0)})
			default:
				b.restore(t, w, nil)
			}
		}
		look(t, &b.x, b.m.vals)
		busy(t, &b.x, slices.Collect(maps.Keys(b.m.works))...)
		if way%7 == 0 {
			b.look(t, 2, 2)
		}
	}
}

// values is what a store has.
func values(x *kv.Store) [keys]answer {
	var all [keys]answer
	for key := range keys {
		all[key].val, all[key].there = x.Value(key)
	}
	return all
}

// TestEachForItself: one work changes what it likes, another one sees of it nothing, and behind a backout nothing is left.
func TestEachForItself(t *testing.T) {
	r := rand.New(rand.NewSource(134))
	saw := 0
	for range 2000 {
		x := kv.New()
		ok(t, "Restore", x.Restore(1, someChanges(r, keys)))
		ok(t, "Commit", x.Commit(1))
		before := values(x)
		for range r.Intn(30) {
			x.Get(1, r.Intn(keys))
			if r.Intn(2) == 0 {
				x.Put(1, r.Intn(4), r.Uint64())
			} else {
				x.Del(1, r.Intn(4))
			}
		}
		for key := range keys {
			val, there, e := x.Get(2, key)
			if e == api.OK && (answer{val: val, there: there}) != before[key] {
				t.Fatalf("the other one sees %d, %v at %d", val, there, key)
			}
			if e == api.OK {
				saw++
			} else if e != api.ErrLocked || val != 0 || there {
				t.Fatalf("Get = %d, %v, %v", val, there, e)
			}
		}
		if values(x) != before {
			t.Fatal("the store has what is not committed")
		}
		if r.Intn(2) == 0 {
			x.Prepare(1)
		}
		ok(t, "Backout", x.Backout(1))
		ok(t, "Backout", x.Backout(2))
		if values(x) != before {
			t.Fatal("a backout left something")
		}
		for n := 1; n < 3; n++ {
			if x.Busy(n) {
				t.Fatalf("%d is there", n)
			}
			for key := range keys {
				val, there, e := x.Get(n, key)
				if (answer{val, there, e}) != before[key] {
					t.Fatalf("Get(%d, %d) = %d, %v, %v", n, key, val, there, e)
				}
			}
			x.Prepare(n)
		}
	}
	if saw == 0 {
		t.Error("the other one saw nothing")
	}
}

func TestChangesThatAreRestoredMakeTheSame(t *testing.T) {
	r := rand.New(rand.NewSource(135))
	for range 2000 {
		x, y := kv.New(), kv.New()
		begin := someChanges(r, keys)
		for _, s := range []*kv.Store{x, y} {
			ok(t, "Restore", s.Restore(3, begin))
			ok(t, "Commit", s.Commit(3))
		}
		for range r.Intn(40) {
			c := put(r.Intn(keys), uint64(r.Intn(4)))
			if r.Intn(3) == 0 {
				c = del(c.Key)
			}
			ok(t, "change", change(x, 1, c))
		}
		list, e := x.Prepare(1)
		ok(t, "Prepare", e)
		ok(t, "Restore", y.Restore(2, list))
		ok(t, "Commit", x.Commit(1))
		ok(t, "Commit", y.Commit(2))
		if values(x) != values(y) {
			t.Fatalf("%v make another store", list)
		}
	}
}

func TestNoTwoWorksChangeAKey(t *testing.T) {
	r := rand.New(rand.NewSource(136))
	most := 0
	for range 200 {
		b := newBoth()
		for range 60 {
			b.step(t, r, 5, keys)
			changed := map[int]int{}
			for n := 1; n <= 5; n++ {
				for _, key := range changedBy(&b.x, n) {
					if other := changed[key]; other != 0 {
						t.Fatalf("%d and %d have changed %d", other, n, key)
					}
					changed[key] = n
				}
			}
			most = max(most, len(changed))
		}
	}
	if most < 5 {
		t.Errorf("at most %d keys were changed", most)
	}
}

// changedBy is the keys that a work has changed; of one that is prepared, those whose values its commit changes.
func changedBy(x *kv.Store, n int) []int {
	var list []int
	probe := *x
	changes, e := probe.Prepare(n)
	if e == api.ErrState {
		before := values(&probe)
		probe.Commit(n)
		for key, val := range values(&probe) {
			if val != before[key] {
				list = append(list, key)
			}
		}
		return list
	}
	for _, c := range changes {
		list = append(list, c.Key)
	}
	return list
}

func TestWhatIsRefusedChangesNothing(t *testing.T) {
	b := newBoth()
	b.change(t, 1, put(3, 1))
	b.change(t, 1, del(4))
	b.get(t, 2, 5)
	b.change(t, 3, put(6, 1))
	b.prepare(t, 3)
	for range 2 {
		b.get(t, 2, 3)
		b.change(t, 2, put(4, 1))
		b.change(t, 1, del(5))
		b.change(t, 1, del(6))
		b.get(t, 3, 7)
		b.change(t, 3, put(6, 2))
		b.prepare(t, 3)
		b.restore(t, 4, []api.Change{put(7, 1), put(3, 1)})
		b.restore(t, 1, []api.Change{put(7, 1)})
		b.look(t, 5, keys)
	}
}

// Rules 4, 5 and 7 of the document

func TestWhatIsHandedInIsNotKept(t *testing.T) {
	x := kv.New()
	memory := []api.Change{put(3, 1), del(4), put(5, 2), put(9, 9)}
	list := memory[:2]
	ok(t, "Restore", x.Restore(1, list))
	if !slices.Equal(memory, []api.Change{put(3, 1), del(4), put(5, 2), put(9, 9)}) {
		t.Fatalf("the list has become %v", memory)
	}
	ok(t, "Put behind the list", x.Put(2, 5, 1))
	memory[0], memory[1] = put(7, 7), put(8, 8)
	ok(t, "Commit", x.Commit(1))
	look(t, x, map[int]uint64{3: 1})
}

func TestWhatIsHandedOutIsNew(t *testing.T) {
	x := kv.New()
	ok(t, "Put", x.Put(1, 3, 1))
	ok(t, "Put", x.Put(1, 4, 2))
	ok(t, "Put", x.Put(1, 5, 2))
	y := *x
	list, _ := x.Prepare(1)
	again, _ := y.Prepare(1)
	whole := list[:cap(list)]
	for i := range whole {
		whole[i] = put(9, 9)
	}
	if !slices.Equal(again, []api.Change{put(3, 1), put(4, 2), put(5, 2)}) {
		t.Errorf("Prepare = %v", again)
	}
	ok(t, "Commit", x.Commit(1))
	look(t, x, map[int]uint64{3: 1, 4: 2, 5: 2})
}

func TestACopiedStoreIsOneOfItsOwn(t *testing.T) {
	x := with(t, map[int]uint64{3: 9})
	ok(t, "Put", x.Put(1, 3, 1))
	y := *x
	ok(t, "Put", y.Put(1, 3, 2))
	ok(t, "Put", y.Put(1, 4, 2))
	ok(t, "Put", x.Put(2, 4, 5))
	ok(t, "Put", y.Put(3, 8, 5))
	busy(t, x, 1, 2)
	busy(t, &y, 1, 3)
	prepares(t, &y, 1, put(3, 2), put(4, 2))
	gets(t, x, 1, 3, 1)
	z := *x
	ok(t, "Commit", x.Commit(1))
	busy(t, &z, 1, 2)
	look(t, x, map[int]uint64{3: 1})
	look(t, &y, map[int]uint64{3: 9})
	look(t, &z, map[int]uint64{3: 9})
	ok(t, "Backout", z.Backout(1))
	busy(t, &y, 1, 3)
	ok(t, "Commit", y.Commit(1))
	look(t, &y, map[int]uint64{3: 2, 4: 2})
	look(t, &z, map[int]uint64{3: 9})
	prepares(t, x, 2, put(4, 5))
}

func TestTheSameCallsAnswerTheSame(t *testing.T) {
	var first []api.Change
	for round := range 20 {
		r := rand.New(rand.NewSource(137))
		b := newBoth()
		var told []api.Change
		for range 200 {
			b.step(t, r, 4, 6)
			for n := 1; n < 5; n++ {
				y := b.x
				list, _ := y.Prepare(n)
				told = append(told, list...)
			}
		}
		if round == 0 {
			first = told
		}
		if !slices.Equal(told, first) {
			t.Fatal("the same calls answer something else")
		}
	}
}

// P1: every call ends and none panics.

func TestNoCallPanics(t *testing.T) {
	some := kv.New()
	some.Put(1, 3, 1)
	some.Put(2, 4, 1)
	some.Prepare(2)
	lists := [][]api.Change{nil, {}, {{}}, {put(3, 1)}, {put(5, 1), put(5, 1)}, make([]api.Change, 5000)}
	for _, a := range numbers {
		for _, b := range numbers {
			lists = append(lists, []api.Change{{Kind: a, Key: b, Val: math.MaxUint64}})
		}
	}
	for _, x := range []*kv.Store{nil, {}, kv.New(), some, sixtyFour(t)} {
		for _, n := range numbers {
			for _, key := range numbers {
				x.Get(n, key)
				x.Put(n, key, math.MaxUint64)
				x.Del(n, key)
				x.Value(key)
			}
			x.Busy(n)
			x.Prepare(n)
			for _, list := range lists {
				x.Restore(n, list)
				x.Busy(n)
				x.Commit(n)
				x.Restore(n, list)
				x.Backout(n)
			}
		}
	}
}
