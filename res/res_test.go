package res_test

import (
	"math"
	"math/rand"
	"slices"
	"testing"

	"troth/api"
	"troth/kv"
	"troth/queue"
	"troth/res"
)

const lastNext = 1 << 62

var numbers = []int{math.MinInt, -1, 0, 1, 2, 15, 16, 17, lastNext, lastNext + 1, math.MaxInt}

func ok(t *testing.T, what string, e api.Errno) {
	t.Helper()
	if e != api.OK {
		t.Fatalf("%s: %v", what, e)
	}
}

func refused(t *testing.T, what string, e, want api.Errno) {
	t.Helper()
	if e != want {
		t.Fatalf("%s: %v; want %v", what, e, want)
	}
}

// put is a change that gives a key a value.
func put(key int, val uint64) api.Change { return api.Change{Kind: 1, Key: key, Val: val} }

// del is a change by which a key goes.
func del(key int) api.Change { return api.Change{Kind: 2, Key: key} }

// in is a change that puts a value in.
func in(val uint64) api.Change { return api.Change{Kind: 3, Val: val} }

// out is a change that takes an item.
func out(number int, val uint64) api.Change { return api.Change{Kind: 4, Key: number, Val: val} }

// rows is many changes, one behind the other.
func rows(list ...api.Change) []api.Change { return list }

// image is an image of pairs, key and value by turns, and items.
func image(next int, pairs []uint64, items ...uint64) res.Image {
	m := res.Image{Items: items, Next: next}
	for i := 0; i < len(pairs); i += 2 {
		m.Pairs = append(m.Pairs, res.Pair{Key: int(pairs[i]), Val: pairs[i+1]})
	}
	return m
}

func sameImage(a, b res.Image) bool {
	return slices.Equal(a.Pairs, b.Pairs) && slices.Equal(a.Items, b.Items) && a.Next == b.Next
}

// look holds an image against that which resources should have.
func look(t *testing.T, x *res.Res, want res.Image) {
	t.Helper()
	if got := x.Image(); !sameImage(got, want) {
		t.Fatalf("Image = %v; want %v", got, want)
	}
}

// busy holds the works from 1 to 9 that are there against those that should be.
func busy(t *testing.T, x *res.Res, works ...int) {
	t.Helper()
	for n := -1; n < 10; n++ {
		if got := x.Busy(n); got != slices.Contains(works, n) {
			t.Fatalf("Busy(%d) = %v; want those of %v", n, got, works)
		}
	}
}

func gets(t *testing.T, x *res.Res, n, key int, want uint64) {
	t.Helper()
	if val, there, e := x.Get(n, key); val != want || !there || e != api.OK {
		t.Fatalf("Get(%d, %d) = %d, %v, %v; want %d", n, key, val, there, e, want)
	}
}

func getsNone(t *testing.T, x *res.Res, n, key int, want api.Errno) {
	t.Helper()
	if val, there, e := x.Get(n, key); val != 0 || there || e != want {
		t.Fatalf("Get(%d, %d) = %d, %v, %v; want none, %v", n, key, val, there, e, want)
	}
}

func pops(t *testing.T, x *res.Res, n int, want ...uint64) {
	t.Helper()
	for _, val := range want {
		if got, e := x.Pop(n); got != val || e != api.OK {
			t.Fatalf("Pop(%d) = %d, %v; want %d", n, got, e, val)
		}
	}
}

func popsNone(t *testing.T, x *res.Res, n int, want api.Errno) {
	t.Helper()
	if got, e := x.Pop(n); got != 0 || e != want {
		t.Fatalf("Pop(%d) = %d, %v; want %v", n, got, e, want)
	}
}

// prepares prepares a work that should have these changes.
func prepares(t *testing.T, x *res.Res, n int, want ...api.Change) {
	t.Helper()
	list, e := x.Prepare(n)
	if e != api.OK || !slices.Equal(list, want) {
		t.Fatalf("Prepare(%d) = %v, %v; want %v", n, list, e, want)
	}
}

func prepareRefused(t *testing.T, x *res.Res, n int, want api.Errno) {
	t.Helper()
	if list, e := x.Prepare(n); len(list) != 0 || e != want {
		t.Fatalf("Prepare(%d) = %v, %v; want %v", n, list, e, want)
	}
}

// loaded is resources with this image.
func loaded(t *testing.T, m res.Image) *res.Res {
	t.Helper()
	x, e := res.Load(m)
	if x == nil || e != api.OK {
		t.Fatalf("Load(%v) = %v, %v", m, x, e)
	}
	look(t, x, m)
	return x
}

func loadRefused(t *testing.T, m res.Image, want api.Errno) {
	t.Helper()
	if x, e := res.Load(m); x != nil || e != want {
		t.Fatalf("Load(%v) = %v, %v; want %v", m, x, e, want)
	}
}

// some is resources with the keys 3 and 4 and the items 7 and 8, of the numbers 1 and 2.
func some(t *testing.T) *res.Res {
	t.Helper()
	return loaded(t, someImage())
}

func someImage() res.Image { return image(3, []uint64{3, 9, 4, 0}, 7, 8) }

// isPrepared holds that a work may do nothing more but come to its end.
func isPrepared(t *testing.T, x *res.Res, n int) {
	t.Helper()
	for _, key := range numbers {
		getsNone(t, x, n, key, api.ErrState)
		refused(t, "Put", x.Put(n, key, 1), api.ErrState)
		refused(t, "Del", x.Del(n, key), api.ErrState)
	}
	refused(t, "Push", x.Push(n, 1), api.ErrState)
	popsNone(t, x, n, api.ErrState)
	prepareRefused(t, x, n, api.ErrState)
	if !x.Busy(n) {
		t.Fatalf("%d is not there", n)
	}
}

// P15.1

func TestTheExample(t *testing.T) {
	x := res.New()
	ok(t, "Put", x.Put(1, 3, 9))
	ok(t, "Push", x.Push(1, 7))
	prepares(t, x, 1, api.Change{Kind: 1, Key: 3, Val: 9}, api.Change{Kind: 3, Key: 0, Val: 7})
}

func TestNewHasNothing(t *testing.T) {
	for name, x := range map[string]*res.Res{"New": res.New(), "zero": {}, "new": new(res.Res)} {
		if x == nil {
			t.Fatalf("%s is nil", name)
		}
		look(t, x, image(1, nil))
		busy(t, x)
		for n := 1; n < 4; n++ {
			popsNone(t, x, n, api.ErrEmpty)
			ok(t, "Commit", x.Commit(n))
			ok(t, "Backout", x.Backout(n))
			prepares(t, x, n)
			ok(t, "Restore", x.Restore(n, nil))
		}
		busy(t, x)
		ok(t, "Put", x.Put(1, 3, 4))
		ok(t, "Push", x.Push(1, 5))
		ok(t, "Commit", x.Commit(1))
		look(t, x, image(2, []uint64{3, 4}, 5))
	}
}

func TestTwoResourcesAreTwo(t *testing.T) {
	x, y := res.New(), res.New()
	ok(t, "Put", x.Put(1, 1, 5))
	ok(t, "Push", x.Push(1, 6))
	prepares(t, x, 1, put(1, 5), in(6))
	busy(t, y)
	ok(t, "Put", y.Put(1, 1, 6))
	ok(t, "Commit", x.Commit(1))
	look(t, y, image(1, nil))
	prepares(t, y, 1, put(1, 6))
	look(t, x, image(2, []uint64{1, 5}, 6))
}

func TestOfNil(t *testing.T) {
	var x *res.Res
	for _, n := range numbers {
		for _, key := range numbers {
			getsNone(t, x, n, key, api.ErrNil)
			refused(t, "Put", x.Put(n, key, 1), api.ErrNil)
			refused(t, "Del", x.Del(n, key), api.ErrNil)
		}
		refused(t, "Push", x.Push(n, 1), api.ErrNil)
		popsNone(t, x, n, api.ErrNil)
		prepareRefused(t, x, n, api.ErrNil)
		refused(t, "Commit", x.Commit(n), api.ErrNil)
		refused(t, "Backout", x.Backout(n), api.ErrNil)
		for _, list := range [][]api.Change{nil, rows(put(1, 1)), rows(in(1), put(1, 1)), rows(api.Change{})} {
			refused(t, "Restore", x.Restore(n, list), api.ErrNil)
		}
		if x.Busy(n) {
			t.Errorf("%d is there", n)
		}
	}
	look(t, x, res.Image{})
}

func TestNumbersThatAreNone(t *testing.T) {
	x := some(t)
	for _, n := range numbers {
		for _, key := range numbers {
			if n >= 1 && 0 <= key && key < 16 {
				continue
			}
			getsNone(t, x, n, key, api.ErrArg)
			refused(t, "Put", x.Put(n, key, 1), api.ErrArg)
			refused(t, "Del", x.Del(n, key), api.ErrArg)
		}
		if n < 1 {
			refused(t, "Push", x.Push(n, 1), api.ErrArg)
			popsNone(t, x, n, api.ErrArg)
			prepareRefused(t, x, n, api.ErrArg)
			refused(t, "Commit", x.Commit(n), api.ErrArg)
			refused(t, "Backout", x.Backout(n), api.ErrArg)
			for _, list := range [][]api.Change{nil, rows(put(1, 1)), rows(in(1), put(1, 1)), rows(api.Change{})} {
				refused(t, "Restore", x.Restore(n, list), api.ErrArg)
			}
		}
		if x.Busy(n) {
			t.Errorf("%d is there", n)
		}
	}
	look(t, x, someImage())
	for _, n := range []int{1, 2, math.MaxInt} {
		ok(t, "Put", x.Put(n, 0, math.MaxUint64))
		ok(t, "Push", x.Push(n, math.MaxUint64))
		prepares(t, x, n, put(0, math.MaxUint64), in(math.MaxUint64))
		isPrepared(t, x, n)
		ok(t, "Backout", x.Backout(n))
	}
}

// Put, Get and Del are the store's.
func TestKeys(t *testing.T) {
	x := some(t)
	gets(t, x, 1, 3, 9)
	gets(t, x, 1, 4, 0)
	getsNone(t, x, 1, 5, api.OK)
	ok(t, "Put", x.Put(1, 5, 6))
	ok(t, "Del", x.Del(1, 3))
	gets(t, x, 1, 5, 6)
	getsNone(t, x, 1, 3, api.OK)
	getsNone(t, x, 2, 5, api.ErrLocked)
	refused(t, "Put", x.Put(2, 4, 1), api.ErrLocked)
	refused(t, "Del", x.Del(2, 4), api.ErrLocked)
	gets(t, x, 2, 4, 0)
	busy(t, x, 1, 2)
	look(t, x, someImage())
	ok(t, "Commit", x.Commit(1))
	look(t, x, image(3, []uint64{4, 0, 5, 6}, 7, 8))
	busy(t, x, 2)
}

func TestTheTableOfLocksIsFull(t *testing.T) {
	x := res.New()
	for n := 1; n < 5; n++ {
		for key := range 16 {
			getsNone(t, x, n, key, api.OK)
		}
	}
	getsNone(t, x, 5, 0, api.ErrFull)
	ok(t, "Backout", x.Backout(4))
	getsNone(t, x, 5, 0, api.OK)
}

// Push and Pop are the queue's Put and Take.
func TestItems(t *testing.T) {
	x := some(t)
	ok(t, "Push", x.Push(1, 5))
	pops(t, x, 1, 7)
	popsNone(t, x, 2, api.ErrLocked)
	pops(t, x, 1, 8)
	popsNone(t, x, 1, api.ErrEmpty)
	busy(t, x, 1)
	look(t, x, someImage())
	ok(t, "Commit", x.Commit(1))
	look(t, x, image(4, []uint64{3, 9, 4, 0}, 5))
	busy(t, x)
	for range 15 {
		ok(t, "Push", x.Push(1, 1))
	}
	refused(t, "Push", x.Push(1, 1), api.ErrFull)
	refused(t, "Push", x.Push(2, 1), api.ErrFull)
}

// Who is prepared in one of both is prepared in both.
func TestPreparedInEither(t *testing.T) {
	for name, begin := range map[string]func(x *res.Res){
		"keys":           func(x *res.Res) { ok(t, "Put", x.Put(1, 3, 1)); prepares(t, x, 1, put(3, 1)) },
		"a key goes":     func(x *res.Res) { ok(t, "Del", x.Del(1, 3)); prepares(t, x, 1, del(3)) },
		"a push":         func(x *res.Res) { ok(t, "Push", x.Push(1, 1)); prepares(t, x, 1, in(1)) },
		"a pop":          func(x *res.Res) { pops(t, x, 1, 7); prepares(t, x, 1, out(1, 7)) },
		"a look, a push": func(x *res.Res) { gets(t, x, 1, 3, 9); ok(t, "Push", x.Push(1, 1)); prepares(t, x, 1, in(1)) },
		"both": func(x *res.Res) {
			pops(t, x, 1, 7)
			ok(t, "Put", x.Put(1, 3, 1))
			prepares(t, x, 1, put(3, 1), out(1, 7))
		},
		"restored keys":  func(x *res.Res) { ok(t, "Restore", x.Restore(1, rows(put(3, 1)))) },
		"restored items": func(x *res.Res) { ok(t, "Restore", x.Restore(1, rows(out(1, 7), in(5)))) },
		"restored both":  func(x *res.Res) { ok(t, "Restore", x.Restore(1, rows(del(3), in(5)))) },
	} {
		for _, commit := range []bool{false, true} {
			x := some(t)
			begin(x)
			isPrepared(t, x, 1)
			busy(t, x, 1)
			look(t, x, someImage())
			if commit {
				ok(t, name, x.Commit(1))
			} else {
				ok(t, name, x.Backout(1))
				look(t, x, someImage())
			}
			busy(t, x)
			ok(t, name, x.Put(1, 5, 1))
			ok(t, name, x.Push(1, 2))
			getsNone(t, x, 1, 6, api.OK)
			prepares(t, x, 1, put(5, 1), in(2))
			isPrepared(t, x, 1)
		}
	}
}

// Many works are prepared at once, and each by itself.
func TestManyArePrepared(t *testing.T) {
	x := res.New()
	for n := 1; n < 7; n++ {
		ok(t, "Put", x.Put(n, n, uint64(n)))
		ok(t, "Push", x.Push(n+20, uint64(n)))
		prepares(t, x, n, put(n, uint64(n)))
		prepares(t, x, n+20, in(uint64(n)))
	}
	for _, n := range []int{3, 1, 6, 2, 5, 4} {
		isPrepared(t, x, n)
		isPrepared(t, x, n+20)
		ok(t, "Commit", x.Commit(n))
		ok(t, "Backout", x.Backout(n+20))
		getsNone(t, x, n, 0, api.OK)
		getsNone(t, x, n+20, 0, api.OK)
	}
	look(t, x, image(1, []uint64{1, 1, 2, 2, 3, 3, 4, 4, 5, 5, 6, 6}))
}

// P15.2

func TestPrepare(t *testing.T) {
	x := some(t)
	pops(t, x, 1, 7)
	ok(t, "Put", x.Put(1, 3, 1))
	ok(t, "Push", x.Push(1, 5))
	ok(t, "Del", x.Del(1, 4))
	pops(t, x, 1, 8)
	ok(t, "Put", x.Put(1, 3, 2))
	ok(t, "Push", x.Push(1, 5))
	prepares(t, x, 1, put(3, 2), del(4), out(1, 7), in(5), out(2, 8), in(5))
	prepareRefused(t, x, 1, api.ErrState)
	prepareRefused(t, x, 1, api.ErrState)
	look(t, x, someImage())
	ok(t, "Commit", x.Commit(1))
	look(t, x, image(5, []uint64{3, 2}, 5, 5))
	busy(t, x)
}

func TestWhoHasNoChangesIsNotPrepared(t *testing.T) {
	x := some(t)
	gets(t, x, 1, 3, 9)
	busy(t, x, 1)
	prepares(t, x, 1)
	busy(t, x)
	ok(t, "Put of what was looked at", x.Put(2, 3, 1))
	prepares(t, x, 1)
	getsNone(t, x, 1, 0, api.OK)
	ok(t, "Push", x.Push(1, 1))
	prepares(t, x, 1, in(1))
	ok(t, "Put of what was looked at", x.Put(2, 0, 1))
	isPrepared(t, x, 1)
	busy(t, x, 1, 2)
}

func TestCommitAndBackoutAreOfBoth(t *testing.T) {
	for _, prepared := range []bool{false, true} {
		for _, commit := range []bool{false, true} {
			x := some(t)
			ok(t, "Put", x.Put(1, 5, 1))
			ok(t, "Del", x.Del(1, 3))
			gets(t, x, 1, 4, 0)
			pops(t, x, 1, 7)
			ok(t, "Push", x.Push(1, 2))
			ok(t, "Put of another one", x.Put(2, 6, 6))
			ok(t, "Push of another one", x.Push(2, 3))
			if prepared {
				prepares(t, x, 1, put(5, 1), del(3), out(1, 7), in(2))
			}
			want := someImage()
			if commit {
				ok(t, "Commit", x.Commit(1))
				want = image(4, []uint64{4, 0, 5, 1}, 8, 2)
			} else {
				ok(t, "Backout", x.Backout(1))
			}
			look(t, x, want)
			busy(t, x, 2)
			for _, again := range []func(int) api.Errno{x.Commit, x.Backout, x.Commit} {
				ok(t, "again", again(1))
				look(t, x, want)
			}
			for key := 3; key < 6; key++ {
				ok(t, "Put of what was locked", x.Put(3, key, 2))
			}
			pops(t, x, 3, want.Items...)
			prepares(t, x, 2, put(6, 6), in(3))
		}
	}
}

func TestRestore(t *testing.T) {
	x := some(t)
	ok(t, "Restore", x.Restore(1, rows(del(4), put(3, 1), put(15, 2), in(5), out(1, 7), in(6), out(2, 8))))
	isPrepared(t, x, 1)
	look(t, x, someImage())
	for _, key := range []int{3, 4, 15} {
		getsNone(t, x, 2, key, api.ErrLocked)
	}
	popsNone(t, x, 2, api.ErrLocked)
	getsNone(t, x, 2, 5, api.OK)
	busy(t, x, 1, 2)
	ok(t, "Commit", x.Commit(1))
	look(t, x, image(5, []uint64{3, 1, 15, 2}, 5, 6))
	busy(t, x, 2)
}

func TestRestoreOfAnEmptyList(t *testing.T) {
	for _, list := range [][]api.Change{nil, {}} {
		x := some(t)
		ok(t, "Restore", x.Restore(1, list))
		busy(t, x)
		prepares(t, x, 1)
		gets(t, x, 1, 3, 9)
		refused(t, "Restore", x.Restore(1, list), api.ErrState)
		ok(t, "Push", x.Push(2, 3))
		refused(t, "Restore", x.Restore(2, list), api.ErrState)
		prepares(t, x, 2, in(3))
		refused(t, "Restore", x.Restore(2, list), api.ErrState)
		isPrepared(t, x, 2)
		busy(t, x, 1, 2)
	}
}

// same holds that resources are those of some, all of it free.
func same(t *testing.T, x *res.Res) {
	t.Helper()
	busy(t, x)
	look(t, x, someImage())
	for key := range 16 {
		ok(t, "Put", x.Put(9, key, 1))
	}
	pops(t, x, 9, 7, 8)
	for range 14 {
		ok(t, "Push", x.Push(9, 1))
	}
	ok(t, "Backout", x.Backout(9))
	look(t, x, someImage())
}

func TestRestoreOfARowThatIsNone(t *testing.T) {
	for _, c := range []struct {
		want api.Errno
		list []api.Change
	}{
		{api.ErrForm, rows(in(1), put(3, 1))},
		{api.ErrForm, rows(in(1), del(3))},
		{api.ErrForm, rows(out(1, 7), put(3, 1))},
		{api.ErrForm, rows(put(5, 1), in(1), in(2), del(3))},
		{api.ErrForm, rows(put(5, 1), in(1), put(3, 1), in(2))},
		{api.ErrForm, rows(api.Change{}, put(3, 1))},
		{api.ErrForm, rows(api.Change{Kind: 5}, del(3))},
		{api.ErrForm, rows(api.Change{Kind: math.MinInt}, put(-1, 3))},
		{api.ErrForm, rows(put(16, 1), in(1), put(3, 1))},
		{api.ErrForm, rows(put(3, 1), put(3, 1), out(9, 9), put(3, 1))},
		{api.ErrArg, rows(put(16, 1))},
		{api.ErrArg, rows(put(-1, 1), in(1))},
		{api.ErrArg, rows(del(16), in(1))},
		{api.ErrArg, rows(put(3, 1), put(3, 1))},
		{api.ErrArg, rows(put(3, 1), del(3), in(1))},
		{api.ErrArg, rows(api.Change{Kind: 2, Key: 3, Val: 1}, in(1))},
		{api.ErrArg, rows(api.Change{})},
		{api.ErrArg, rows(put(3, 1), api.Change{})},
		{api.ErrArg, rows(put(3, 1), del(4), api.Change{Kind: 5})},
		{api.ErrArg, rows(put(3, 1), api.Change{Kind: -1, Key: 1})},
		{api.ErrArg, rows(put(3, 1), in(1), api.Change{Kind: math.MaxInt})},
		{api.ErrArg, rows(put(3, 1), api.Change{Kind: 3, Key: 1, Val: 1})},
		{api.ErrArg, rows(put(3, 1), out(1, 8))},
		{api.ErrArg, rows(put(3, 1), out(2, 8))},
		{api.ErrArg, rows(del(3), out(1, 7), out(1, 7))},
		{api.ErrArg, rows(del(3), out(1, 7), out(2, 8), out(3, 9))},
		{api.ErrArg, append(rows(put(3, 1)), slices.Repeat(rows(in(1)), 15)...)},
	} {
		x := some(t)
		refused(t, "Restore", x.Restore(1, c.list), c.want)
		same(t, x)
	}
	x := some(t)
	ok(t, "Restore of as many as there is room for", x.Restore(1, append(rows(put(3, 1)), slices.Repeat(rows(in(1)), 14)...)))
}

// The store's errors are ahead of the queue's, and the row's form is ahead of both.
func TestTheOrderOfRestoresErrors(t *testing.T) {
	bad := api.Change{Kind: 7}
	x := some(t)
	ok(t, "Put", x.Put(1, 3, 1))
	refused(t, "the form", x.Restore(1, rows(in(1), put(3, 1))), api.ErrForm)
	refused(t, "a change of no key", x.Restore(1, rows(put(16, 1), bad)), api.ErrArg)
	refused(t, "one that the store has", x.Restore(1, rows(put(3, 1), bad)), api.ErrState)
	refused(t, "one that the store has", x.Restore(1, rows(bad)), api.ErrState)
	refused(t, "a lock", x.Restore(2, rows(put(5, 1), put(3, 1), bad)), api.ErrLocked)
	refused(t, "the queue's", x.Restore(2, rows(put(5, 1), bad)), api.ErrArg)
	ok(t, "Push", x.Push(3, 1))
	refused(t, "a lock", x.Restore(3, rows(put(3, 1), in(1))), api.ErrLocked)
	refused(t, "the queue's", x.Restore(3, rows(put(5, 1), bad)), api.ErrArg)
	refused(t, "one that the queue has", x.Restore(3, rows(put(5, 1), in(1))), api.ErrState)
	refused(t, "one that the queue has", x.Restore(3, rows(put(5, 1))), api.ErrState)
	refused(t, "one that the queue has", x.Restore(3, nil), api.ErrState)
	busy(t, x, 1, 3)
	ok(t, "Put of what was not restored", x.Put(4, 5, 1))
	prepares(t, x, 3, in(1))
	prepares(t, x, 1, put(3, 1))
}

// Whatever a work has, a Restore that is refused leaves it so, prepared or not.
func TestARestoreThatIsRefusedChangesNothing(t *testing.T) {
	x := some(t)
	gets(t, x, 1, 3, 9)
	ok(t, "Put", x.Put(2, 4, 1))
	ok(t, "Push", x.Push(3, 2))
	pops(t, x, 4, 7)
	ok(t, "Push", x.Push(5, 1))
	ok(t, "Put", x.Put(6, 6, 6))
	prepares(t, x, 5, in(1))
	prepares(t, x, 6, put(6, 6))
	for n := 1; n < 7; n++ {
		for _, list := range [][]api.Change{nil, rows(put(8, 1)), rows(put(8, 1), in(1)), rows(in(1)), rows(put(3, 5)), rows(del(4)), rows(out(1, 7))} {
			if e := x.Restore(n, list); e == api.OK {
				t.Fatalf("%d is restored", n)
			}
			busy(t, x, 1, 2, 3, 4, 5, 6)
		}
	}
	refused(t, "Put of what was looked at", x.Put(7, 3, 1), api.ErrLocked)
	popsNone(t, x, 7, api.ErrLocked)
	isPrepared(t, x, 5)
	isPrepared(t, x, 6)
	prepares(t, x, 1)
	prepares(t, x, 2, put(4, 1))
	prepares(t, x, 3, in(2))
	prepares(t, x, 4, out(1, 7))
	ok(t, "Put of what nobody has", x.Put(7, 8, 1))
	look(t, x, someImage())
}

// P15.3

func TestImageIsOfWhatIsCommitted(t *testing.T) {
	x := some(t)
	ok(t, "Put", x.Put(1, 0, 1))
	ok(t, "Del", x.Del(1, 3))
	pops(t, x, 1, 7)
	ok(t, "Push", x.Push(1, 2))
	look(t, x, someImage())
	prepares(t, x, 1, put(0, 1), del(3), out(1, 7), in(2))
	for range 3 {
		look(t, x, someImage())
		busy(t, x, 1)
	}
	ok(t, "Commit", x.Commit(1))
	look(t, x, image(4, []uint64{0, 1, 4, 0}, 8, 2))
}

func TestImageHasItsPairsRising(t *testing.T) {
	x := res.New()
	var pairs []uint64
	for i := range 16 {
		key := (i*7 + 5) % 16
		ok(t, "Put", x.Put(1, key, uint64(key*key)))
		pairs = append(pairs, uint64(i), uint64(i*i))
	}
	ok(t, "Commit", x.Commit(1))
	look(t, x, image(1, pairs))
}

func TestLoad(t *testing.T) {
	full := make([]uint64, 16)
	var pairs []uint64
	for i := range full {
		full[i] = uint64(100 - i)
		pairs = append(pairs, uint64(i), math.MaxUint64-uint64(i))
	}
	for _, m := range []res.Image{
		image(1, nil), image(2, nil), image(lastNext, nil), image(2, nil, 5), image(9, nil, 5), image(lastNext, nil, 5),
		image(17, nil, full...), image(18, pairs, full...), image(lastNext, pairs, full...), image(1, pairs),
		image(1, []uint64{0, 0}), image(1, []uint64{15, 0}), image(1, []uint64{0, 1, 15, 2}), image(3, []uint64{7, 7, 8, 8}, 0, 0),
	} {
		x := loaded(t, m)
		busy(t, x)
		for _, p := range m.Pairs {
			gets(t, x, 1, p.Key, p.Val)
		}
		pops(t, x, 1, m.Items...)
		popsNone(t, x, 1, api.ErrEmpty)
		var want []api.Change
		for i, val := range m.Items {
			want = append(want, out(m.Next-len(m.Items)+i, val))
		}
		prepares(t, x, 1, want...)
		ok(t, "Backout", x.Backout(1))
		look(t, x, m)
	}
}

func TestLoadOfANextNumberOfZero(t *testing.T) {
	for _, items := range [][]uint64{nil, {}} {
		for _, pairs := range [][]uint64{nil, {3, 9}} {
			x, e := res.Load(image(0, pairs, items...))
			ok(t, "Load", e)
			look(t, x, image(1, pairs))
			ok(t, "Push", x.Push(1, 5))
			ok(t, "Commit", x.Commit(1))
			look(t, x, image(2, pairs, 5))
		}
	}
	loadRefused(t, image(0, nil, 5), api.ErrArg)
}

func TestLoadOfWhatIsNoImage(t *testing.T) {
	many := slices.Repeat([]uint64{1}, 17)
	for _, pairs := range [][]res.Pair{
		{{Key: -1}}, {{Key: 16}}, {{Key: math.MinInt}}, {{Key: math.MaxInt}}, {{Key: 3}, {Key: 16}}, {{Key: -1}, {Key: 3}},
		{{Key: 3}, {Key: 3}}, {{Key: 3, Val: 1}, {Key: 3, Val: 2}}, {{Key: 4}, {Key: 3}}, {{Key: 0}, {Key: 2}, {Key: 1}},
		{{Key: 0}, {Key: 15}, {Key: 15}}, {{Key: 1}, {Key: 0}}, make([]res.Pair, 17), make([]res.Pair, 5000),
	} {
		loadRefused(t, res.Image{Pairs: pairs, Next: 1}, api.ErrForm)
		loadRefused(t, res.Image{Pairs: pairs}, api.ErrForm)
		loadRefused(t, res.Image{Pairs: pairs, Items: many, Next: 1}, api.ErrForm)
		loadRefused(t, res.Image{Pairs: pairs, Next: -1}, api.ErrForm)
	}
	for _, pairs := range [][]uint64{nil, {0, 0, 3, 9}} {
		for _, next := range []int{-1, math.MinInt, lastNext + 1, math.MaxInt} {
			loadRefused(t, image(next, pairs), api.ErrArg)
			loadRefused(t, image(next, pairs, 5), api.ErrArg)
		}
		for n := 1; n < 17; n++ {
			loadRefused(t, image(n, pairs, many[:n]...), api.ErrArg)
			loadRefused(t, image(n-1, pairs, many[:n]...), api.ErrArg)
			loadRefused(t, image(0, pairs, many[:n]...), api.ErrArg)
		}
		loadRefused(t, image(18, pairs, many...), api.ErrArg)
		loadRefused(t, image(lastNext, pairs, many...), api.ErrArg)
	}
}

// P15.5, of images

func TestImagesGoThereAndBack(t *testing.T) {
	r := rand.New(rand.NewSource(151))
	for range 2000 {
		m := someOf(r)
		x := loaded(t, m)
		y := loaded(t, x.Image())
		look(t, y, m)
	}
}

// someOf is any image.
func someOf(r *rand.Rand) res.Image {
	var m res.Image
	keys := r.Perm(16)[:r.Intn(17)]
	slices.Sort(keys)
	for _, key := range keys {
		m.Pairs = append(m.Pairs, res.Pair{Key: key, Val: r.Uint64() >> r.Intn(64)})
	}
	for range r.Intn(17) {
		m.Items = append(m.Items, r.Uint64()>>r.Intn(64))
	}
	m.Next = len(m.Items) + 1 + r.Intn(5)
	if r.Intn(5) == 0 {
		m.Next = lastNext - r.Intn(20)
	}
	return m
}

// P15.6

// does has a work do some of what works do.
func does(r *rand.Rand, x *res.Res, n int) {
	for range r.Intn(25) {
		switch key := r.Intn(16); r.Intn(6) {
		case 0:
			x.Get(n, key)
		case 1, 2:
			x.Put(n, key, r.Uint64()>>r.Intn(64))
		case 3:
			x.Del(n, key)
		case 4:
			x.Push(n, r.Uint64()>>r.Intn(64))
		default:
			x.Pop(n)
		}
	}
}

func TestRedo(t *testing.T) {
	r := rand.New(rand.NewSource(152))
	changed := 0
	for range 4000 {
		x := loaded(t, someOf(r))
		does(r, x, 2) // another one is on its way
		does(r, x, 1)
		before := x.Image()
		list, e := x.Prepare(1)
		ok(t, "Prepare", e)
		b, e := res.Write(list)
		ok(t, "Write", e)
		back, e := res.Read(b)
		ok(t, "Read", e)
		y := loaded(t, before)
		ok(t, "Restore", y.Restore(1, back))
		look(t, y, before)
		ok(t, "Commit", x.Commit(1))
		ok(t, "Commit", y.Commit(1))
		look(t, y, x.Image())
		busy(t, y)
		if len(list) > 5 {
			changed++
		}
	}
	if changed < 500 {
		t.Errorf("%d works had changes", changed)
	}
}

// A chain of works, each of which is redone behind the one ahead of it.
func TestRedoOfManyWorks(t *testing.T) {
	r := rand.New(rand.NewSource(153))
	for range 100 {
		x := res.New()
		y := res.New()
		for range 30 {
			does(r, x, 1)
			list, e := x.Prepare(1)
			ok(t, "Prepare", e)
			if r.Intn(4) == 0 {
				ok(t, "Backout", x.Backout(1))
				continue
			}
			ok(t, "Commit", x.Commit(1))
			ok(t, "Restore", y.Restore(1, list))
			ok(t, "Commit", y.Commit(1))
			look(t, y, x.Image())
			y = loaded(t, y.Image())
		}
	}
}

// P15.7

// plain is a store and a queue that know nothing of one another, and who is prepared in either.
type plain struct {
	s        *kv.Store
	q        *queue.Queue
	prepared map[int]bool
}

// answer is what a call answers.
type answer struct {
	val   uint64
	there bool
	e     api.Errno
}

func newPlain() *plain {
	return &plain{s: kv.New(), q: queue.New(), prepared: map[int]bool{}}
}

func (m *plain) image() res.Image {
	var pairs []res.Pair
	for key := range 16 {
		if val, there := m.s.Value(key); there {
			pairs = append(pairs, res.Pair{Key: key, Val: val})
		}
	}
	return res.Image{Pairs: pairs, Items: m.q.Values(), Next: m.q.Next()}
}

func (m *plain) works() []int {
	var works []int
	for n := range 10 {
		if m.s.Busy(n) || m.q.Busy(n) {
			works = append(works, n)
		}
	}
	return works
}

// call does what x's call of that number should do: Get, Put, Del, Push, Pop.
func (m *plain) call(c, n, key int, val uint64) answer {
	if m.prepared[n] {
		return answer{e: api.ErrState}
	}
	switch c {
	case 0:
		val, there, e := m.s.Get(n, key)
		return answer{val, there, e}
	case 1:
		return answer{e: m.s.Put(n, key, val)}
	case 2:
		return answer{e: m.s.Del(n, key)}
	case 3:
		return answer{e: m.q.Put(n, val)}
	}
	val, e := m.q.Take(n)
	return answer{val: val, e: e}
}

func call(x *res.Res, c, n, key int, val uint64) answer {
	switch c {
	case 0:
		val, there, e := x.Get(n, key)
		return answer{val, there, e}
	case 1:
		return answer{e: x.Put(n, key, val)}
	case 2:
		return answer{e: x.Del(n, key)}
	case 3:
		return answer{e: x.Push(n, val)}
	}
	val, e := x.Pop(n)
	return answer{val: val, e: e}
}

func (m *plain) prepare(n int) ([]api.Change, api.Errno) {
	if m.prepared[n] {
		return nil, api.ErrState
	}
	front, _ := m.s.Prepare(n)
	rest, _ := m.q.Prepare(n)
	m.prepared[n] = len(front)+len(rest) > 0
	return slices.Concat(front, rest), api.OK
}

func (m *plain) end(n int, commit bool) {
	if commit {
		m.s.Commit(n)
		m.q.Commit(n)
	} else {
		m.s.Backout(n)
		m.q.Backout(n)
	}
	delete(m.prepared, n)
}

func (m *plain) restore(n int, list []api.Change) api.Errno {
	at := 0
	for at < len(list) && (list[at].Kind == 1 || list[at].Kind == 2) {
		at++
	}
	for _, c := range list[at:] {
		if c.Kind == 1 || c.Kind == 2 {
			return api.ErrForm
		}
	}
	if e := m.s.Restore(n, list[:at]); e != api.OK {
		return e
	}
	if e := m.q.Restore(n, list[at:]); e != api.OK {
		m.s.Backout(n)
		return e
	}
	m.prepared[n] = len(list) > 0
	return api.OK
}

// rowFor is a row of changes that may be one of these resources'.
func (m *plain) rowFor(r *rand.Rand) []api.Change {
	var list []api.Change
	for _, key := range r.Perm(5)[:r.Intn(3)] {
		list = append(list, rows(put(key, uint64(r.Intn(5))), del(key))[r.Intn(2)])
	}
	items := m.q.Values()
	at := 0
	for range r.Intn(4) {
		if r.Intn(2) == 0 || at == len(items) {
			list = append(list, in(uint64(r.Intn(9))))
			continue
		}
		list = append(list, out(m.q.Next()-len(items)+at, items[at]))
		at++
	}
	if len(list) > 0 && r.Intn(6) == 0 {
		i, j := r.Intn(len(list)), r.Intn(len(list))
		list[i], list[j] = list[j], list[i]
	}
	return list
}

func TestResourcesAreWhatTheirWordsSay(t *testing.T) {
	r := rand.New(rand.NewSource(154))
	restored := map[api.Errno]int{}
	for range 400 {
		x, m := res.New(), newPlain()
		for range 120 {
			n := 1 + r.Intn(4)
			switch k := r.Intn(30); {
			case k < 20:
				c, key, val := k/4, r.Intn(6), uint64(r.Intn(9))
				if got, want := call(x, c, n, key, val), m.call(c, n, key, val); got != want {
					t.Fatalf("call %d of %d, %d, %d: %v; want %v", c, n, key, val, got, want)
				}
			case k < 23:
				list, e := x.Prepare(n)
				want, wantE := m.prepare(n)
				if !slices.Equal(list, want) || e != wantE {
					t.Fatalf("Prepare(%d) = %v, %v; want %v, %v", n, list, e, want, wantE)
				}
			case k < 25:
				ok(t, "Commit", x.Commit(n))
				m.end(n, true)
			case k < 27:
				ok(t, "Backout", x.Backout(n))
				m.end(n, false)
			default:
				list := m.rowFor(r)
				e := x.Restore(n, list)
				refused(t, "Restore", e, m.restore(n, list))
				restored[e]++
			}
			look(t, x, m.image())
			busy(t, x, m.works()...)
		}
	}
	for _, e := range []api.Errno{api.OK, api.ErrForm, api.ErrArg, api.ErrState, api.ErrLocked} {
		if restored[e] < 20 {
			t.Errorf("Restore: %v %d times", e, restored[e])
		}
	}
}

// Behind every end of a work either both its key and its item have come, or neither.
func TestBothOrNone(t *testing.T) {
	r := rand.New(rand.NewSource(155))
	ends := map[bool]int{}
	for range 2000 {
		x := res.New()
		if r.Intn(2) == 0 {
			ok(t, "Put", x.Put(1, 3, 9))
			ok(t, "Push", x.Push(1, 7))
			if r.Intn(2) == 0 {
				prepares(t, x, 1, put(3, 9), in(7))
			}
		} else {
			ok(t, "Restore", x.Restore(1, rows(put(3, 9), in(7))))
		}
		switch r.Intn(3) {
		case 0:
			x.Restore(1, rows(put(3, 9)))
		case 1:
			x.Restore(2, rows(put(3, 9), in(7)))
		}
		look(t, x, image(1, nil))
		commit := r.Intn(2) == 0
		if commit {
			ok(t, "Commit", x.Commit(1))
		} else {
			ok(t, "Backout", x.Backout(1))
		}
		busy(t, x)
		want := image(1, nil)
		if commit {
			want = image(2, []uint64{3, 9}, 7)
		}
		look(t, x, want)
		ends[commit]++
	}
	if ends[true] == 0 || ends[false] == 0 {
		t.Errorf("%v", ends)
	}
}

// P1 and the rules on memory

func TestAnswersAreNewMemory(t *testing.T) {
	x := some(t)
	ok(t, "Put", x.Put(1, 3, 1))
	ok(t, "Push", x.Push(1, 2))
	list, _ := x.Prepare(1)
	list[0], list[1] = del(8), in(99)
	_ = append(list[:1], del(9))
	m := x.Image()
	m.Pairs[0], m.Items[0] = res.Pair{Key: 9, Val: 9}, 99
	_ = append(m.Pairs[:1], res.Pair{Key: 10})
	_ = append(m.Items[:1], 98)
	look(t, x, someImage())
	ok(t, "Commit", x.Commit(1))
	look(t, x, image(4, []uint64{3, 1, 4, 0}, 7, 8, 2))
}

func TestWhatIsHandedInIsNotKept(t *testing.T) {
	m := someImage()
	x := loaded(t, m)
	m.Pairs[0].Val, m.Items[0] = 50, 51
	look(t, x, someImage())
	list := rows(put(3, 1), in(2), del(9), del(9))
	was := slices.Clone(list)
	ok(t, "Restore", x.Restore(1, list[:2]))
	if !slices.Equal(list, was) {
		t.Errorf("Restore has changed its list: %v", list)
	}
	list[0], list[1] = put(5, 5), in(6)
	ok(t, "Commit", x.Commit(1))
	look(t, x, image(4, []uint64{3, 1, 4, 0}, 7, 8, 2))
}

// What lies behind a list's length is neither read nor written.
func TestBehindAListsLength(t *testing.T) {
	pairs := []res.Pair{{Key: 3, Val: 9}, {Key: 1, Val: 1}}
	items := []uint64{7, 8, 9}
	x, e := res.Load(res.Image{Pairs: pairs[:1], Items: items[:2], Next: 3})
	ok(t, "Load", e)
	look(t, x, image(3, []uint64{3, 9}, 7, 8))
	list := rows(put(3, 1), put(3, 1), in(5))
	ok(t, "Restore", x.Restore(1, list[:1]))
	if pairs[1] != (res.Pair{Key: 1, Val: 1}) || items[2] != 9 || !slices.Equal(list, rows(put(3, 1), put(3, 1), in(5))) {
		t.Errorf("%v, %v, %v", pairs, items, list)
	}
	ok(t, "Commit", x.Commit(1))
	look(t, x, image(3, []uint64{3, 1}, 7, 8))
}

// Resources that were copied go their own way.
func TestACopyIsOneOfItsOwn(t *testing.T) {
	x := some(t)
	ok(t, "Put", x.Put(1, 3, 1))
	ok(t, "Push", x.Push(2, 5))
	prepares(t, x, 2, in(5))
	y := *x
	prepares(t, x, 1, put(3, 1))
	ok(t, "Commit", x.Commit(2))
	ok(t, "Put in the copy", y.Put(1, 5, 1))
	isPrepared(t, &y, 2)
	isPrepared(t, x, 1)
	look(t, &y, someImage())
	ok(t, "Backout in the copy", y.Backout(1))
	ok(t, "Commit", x.Commit(1))
	look(t, x, image(4, []uint64{3, 1, 4, 0}, 7, 8, 5))
	look(t, &y, someImage())
	busy(t, &y, 2)
}

// Who is prepared in resources is so in them alone, whichever of both is gone on with first.
func TestACopyHasPreparedWorksOfItsOwn(t *testing.T) {
	for before := 1; before < 8; before++ {
		x := res.New()
		for n := 1; n <= before; n++ {
			ok(t, "Put", x.Put(n, n, 1))
			prepares(t, x, n, put(n, 1))
		}
		y := *x
		ok(t, "Push", x.Push(8, 5))
		ok(t, "Push in the copy", y.Push(9, 6))
		prepares(t, x, 8, in(5))
		prepares(t, &y, 9, in(6))
		isPrepared(t, x, 8)
		isPrepared(t, &y, 9)
		getsNone(t, x, 9, 0, api.OK)
		getsNone(t, &y, 8, 0, api.OK)
		z := *x
		ok(t, "Commit", x.Commit(1))
		getsNone(t, x, 1, 0, api.OK)
		for n := 1; n <= before; n++ {
			isPrepared(t, &y, n)
			isPrepared(t, &z, n)
		}
		isPrepared(t, &z, 8)
	}
}

// Nothing of the works that ended is left: however many there were, the next one finds the resources as they are.
func TestVeryManyWorks(t *testing.T) {
	x := res.New()
	for n := 1; n < 5000; n++ {
		ok(t, "Put", x.Put(n, n%16, uint64(n)))
		ok(t, "Push", x.Push(n, uint64(n)))
		prepares(t, x, n, put(n%16, uint64(n)), in(uint64(n)))
		if n%2 == 0 {
			ok(t, "Backout", x.Backout(n))
			continue
		}
		ok(t, "Commit", x.Commit(n))
		pops(t, x, n, uint64(n))
		ok(t, "Commit", x.Commit(n))
	}
	busy(t, x)
	if m := x.Image(); len(m.Items) != 0 || m.Next != 2501 || len(m.Pairs) != 8 {
		t.Errorf("Image = %v", m)
	}
}

func TestNoCallPanics(t *testing.T) {
	r := rand.New(rand.NewSource(156))
	kinds := []int{math.MinInt, -1, 0, 1, 2, 3, 4, 5, math.MaxInt}
	for range 300 {
		x := some(t)
		for range 60 {
			n, key := numbers[r.Intn(len(numbers))], numbers[r.Intn(len(numbers))]
			var list []api.Change
			for range r.Intn(4) {
				list = append(list, api.Change{Kind: kinds[r.Intn(len(kinds))], Key: numbers[r.Intn(len(numbers))], Val: uint64(r.Intn(9))})
			}
			switch r.Intn(5) {
			case 0:
				x.Restore(n, list)
			case 1:
				x.Prepare(n)
			case 2:
				x.Commit(n)
			default:
				call(x, r.Intn(5), n, key, 1)
			}
		}
		for _, p := range x.Image().Pairs {
			if p.Key < 0 || p.Key > 15 {
				t.Fatalf("a key %d", p.Key)
			}
		}
	}
}
