package names_test

import (
	"math"
	"math/rand"
	"testing"

	"troth/api"
	"troth/names"
)

const top = math.MaxUint32

// findings is what a side finds, by what it remembers of the other one, and that one of it: nothing, the name that it has, or another one.
var findings = []struct {
	saved, known string
	idle, works  int // without works, and with works
}{
	{"nothing", "nothing", 2, 5},
	{"nothing", "name", 2, 2},
	{"nothing", "another", 4, 4},
	{"name", "nothing", 1, 5},
	{"name", "name", 1, 1},
	{"name", "another", 4, 4},
	{"another", "nothing", 3, 3},
	{"another", "name", 3, 3},
	{"another", "another", 3, 3},
}

// numbers are log names with one bit, some or every bit in them, and those of one byte's or one bit's difference.
var numbers = []uint32{1, 2, 3, 7, 255, 256, 257, 65535, 65536, 65537, 1 << 24, 1 << 31, 1<<31 + 1, top - 1, top}

// word tells how what is remembered stands to a name.
func word(remembered, name uint32) string {
	switch remembered {
	case 0:
		return "nothing"
	case name:
		return "name"
	}
	return "another"
}

// expected is what the table says.
func expected(t *testing.T, mine, saved, theirs, known uint32, works bool) int {
	t.Helper()
	for _, row := range findings {
		if row.saved == word(saved, theirs) && row.known == word(known, mine) {
			if works {
				return row.works
			}
			return row.idle
		}
	}
	t.Fatalf("no row of %d %d %d %d", mine, saved, theirs, known)
	return 0
}

// check holds what Check says of four numbers, with works and without, against the table.
func check(t *testing.T, mine, saved, theirs, known uint32) {
	t.Helper()
	for _, works := range []bool{false, true} {
		want := expected(t, mine, saved, theirs, known, works)
		if got, e := names.Check(mine, saved, theirs, known, works); got != want || e != api.OK {
			t.Errorf("Check(%d, %d, %d, %d, %v) = %d, %v; want %d", mine, saved, theirs, known, works, got, e, want)
		}
	}
}

// sides is all sides of few names, each with works and without.
func sides(most uint32) []names.Side {
	var list []names.Side
	for mine := range most + 1 {
		for saved := range most + 1 {
			list = append(list, names.Side{Mine: mine, Saved: saved}, names.Side{Mine: mine, Saved: saved, Works: true})
		}
	}
	return list
}

func randomSide(r *rand.Rand) names.Side {
	pick := func() uint32 {
		if r.Intn(3) > 0 {
			return uint32(r.Intn(4))
		}
		return append(numbers, r.Uint32())[r.Intn(len(numbers)+1)]
	}
	return names.Side{Mine: pick(), Saved: pick(), Works: r.Intn(2) == 0}
}

// both is what two sides find, neither of which is without a name.
func both(t *testing.T, a, b names.Side) [2]int {
	t.Helper()
	found, e := names.Both(a, b)
	if e != api.OK {
		t.Fatalf("Both(%v, %v): %v", a, b, e)
	}
	return found
}

// P17.1

func TestTheExamples(t *testing.T) {
	for _, x := range []struct {
		mine, saved, theirs, known uint32
		works                      bool
		want                       int
	}{
		{1, 0, 2, 0, false, names.New},
		{1, 2, 2, 1, true, names.Fine},
		{1, 2, 3, 0, true, names.Changed},
	} {
		if got, e := names.Check(x.mine, x.saved, x.theirs, x.known, x.works); got != x.want || e != api.OK {
			t.Errorf("Check of %v = %d, %v", x, got, e)
		}
	}
}

func TestFindingsHaveTheirNumbers(t *testing.T) {
	for i, n := range []int{names.Fine, names.New, names.Changed, names.Strange, names.Forgot} {
		if n != i+1 {
			t.Errorf("finding %d is %d", i+1, n)
		}
	}
}

func TestCheckOfFewNames(t *testing.T) {
	for n := range uint32(4 * 5 * 4 * 5) {
		check(t, n%4+1, n/4%5, n/20%4+1, n/80)
	}
}

func TestCheckOfManyNames(t *testing.T) {
	with0 := append([]uint32{0}, numbers...)
	for _, mine := range numbers {
		for _, theirs := range numbers {
			for _, saved := range with0 {
				for _, known := range with0 {
					check(t, mine, saved, theirs, known)
				}
			}
		}
	}
}

// The first of several findings is told: each that stands ahead hides those behind it.
func TestTheFirstFindingIsTold(t *testing.T) {
	for _, x := range []struct {
		saved, known uint32
		works        bool
		want         int
	}{
		{3, 4, true, names.Changed}, // also Strange
		{3, 0, true, names.Changed}, // also Forgot
		{0, 4, true, names.Strange}, // also New
		{0, 0, true, names.Forgot},  // also New
		{0, 0, false, names.New},
		{1, 1, false, names.Changed}, // its own name is not the other one's
		{2, 2, false, names.Strange}, // nor the other one's its own
		{0, 1, true, names.New},      // nothing is forgotten
	} {
		if got, e := names.Check(1, x.saved, 2, x.known, x.works); got != x.want || e != api.OK {
			t.Errorf("Check(1, %d, 2, %d, %v) = %d, %v; want %d", x.saved, x.known, x.works, got, e, x.want)
		}
	}
}

func TestCheckOfNoName(t *testing.T) {
	for _, name := range []uint32{0, 1, 2, top} {
		for _, saved := range []uint32{0, 1, 2, top} {
			for _, known := range []uint32{0, 1, 2, top} {
				for _, works := range []bool{false, true} {
					if got, e := names.Check(0, saved, name, known, works); got != 0 || e != api.ErrArg {
						t.Errorf("Check(0, %d, %d, %d, %v) = %d, %v", saved, name, known, works, got, e)
					}
					if got, e := names.Check(name, saved, 0, known, works); got != 0 || e != api.ErrArg {
						t.Errorf("Check(%d, %d, 0, %d, %v) = %d, %v", name, saved, known, works, got, e)
					}
				}
			}
		}
	}
}

func TestBadAndNameOfFindings(t *testing.T) {
	for i, x := range []struct {
		name string
		bad  bool
	}{
		{"", false}, {"fine", false}, {"new", false}, {"changed", true}, {"strange", true}, {"forgot", true}, {"", false},
	} {
		if got := names.Bad(i); got != x.bad {
			t.Errorf("Bad(%d) = %v", i, got)
		}
		if got := names.Name(i); got != x.name {
			t.Errorf("Name(%d) = %q; want %q", i, got, x.name)
		}
	}
}

func TestBadAndNameOfWhatIsNoFinding(t *testing.T) {
	for _, n := range []int{math.MinInt, -256, -3, -1, 0, 6, 7, 8, 255, 256 + 3, 1<<32 + 3, math.MaxInt} {
		if names.Bad(n) {
			t.Errorf("%d is bad", n)
		}
		if got := names.Name(n); got != "" {
			t.Errorf("Name(%d) = %q", n, got)
		}
	}
}

// P17.2

func TestBothIsWhatEachSideFinds(t *testing.T) {
	for _, a := range sides(3) {
		for _, b := range sides(3) {
			got, e := names.Both(a, b)
			if a.Mine == 0 || b.Mine == 0 {
				if got != [2]int{} || e != api.ErrArg {
					t.Errorf("Both(%v, %v) = %v, %v", a, b, got, e)
				}
				continue
			}
			want := [2]int{
				expected(t, a.Mine, a.Saved, b.Mine, b.Saved, a.Works),
				expected(t, b.Mine, b.Saved, a.Mine, a.Saved, b.Works),
			}
			if got != want || e != api.OK {
				t.Errorf("Both(%v, %v) = %v, %v; want %v", a, b, got, e, want)
			}
		}
	}
}

func TestBothOfSidesThatAreNotAlike(t *testing.T) {
	for _, x := range []struct {
		a, b names.Side
		want [2]int
	}{
		{names.Side{Mine: 1, Saved: 2}, names.Side{Mine: 2}, [2]int{names.Fine, names.New}},
		{names.Side{Mine: 1, Saved: 2, Works: true}, names.Side{Mine: 2}, [2]int{names.Forgot, names.New}},
		{names.Side{Mine: 1, Saved: 2}, names.Side{Mine: 2, Works: true}, [2]int{names.Fine, names.New}},
		{names.Side{Mine: 1, Saved: 3}, names.Side{Mine: 2, Saved: 1}, [2]int{names.Changed, names.Strange}},
		{names.Side{Mine: 1, Works: true}, names.Side{Mine: 2, Saved: 3}, [2]int{names.Strange, names.Changed}},
		{names.Side{Mine: top, Saved: 1}, names.Side{Mine: 1, Saved: top, Works: true}, [2]int{names.Fine, names.Fine}},
	} {
		if got := both(t, x.a, x.b); got != x.want {
			t.Errorf("Both(%v, %v) = %v; want %v", x.a, x.b, got, x.want)
		}
	}
}

func TestAfterAnExchange(t *testing.T) {
	well := 0
	for _, a := range sides(3) {
		for _, b := range sides(3) {
			wantA, wantB, want := a, b, false
			if found, e := names.Both(a, b); e == api.OK && max(found[0], found[1]) <= names.New {
				wantA.Saved, wantB.Saved, want = b.Mine, a.Mine, true
				well++
			}
			if x, y, is := names.After(a, b); x != wantA || y != wantB || is != want {
				t.Errorf("After(%v, %v) = %v, %v, %v; want %v, %v, %v", a, b, x, y, is, wantA, wantB, want)
			}
		}
	}
	if well < 50 {
		t.Errorf("only %d without mismatch", well)
	}
}

func TestAfterLeavesNoNameAsItIs(t *testing.T) {
	for _, x := range [][2]names.Side{
		{{Saved: 2}, {Mine: 2}},
		{{Mine: 2, Works: true}, {Works: true}},
		{{}, {}},
		{{Saved: top}, {Saved: 1}},
	} {
		if a, b, is := names.After(x[0], x[1]); a != x[0] || b != x[1] || is {
			t.Errorf("After(%v, %v) = %v, %v, %v", x[0], x[1], a, b, is)
		}
	}
}

// P17.3

func TestAColdStartIsSeen(t *testing.T) {
	for _, was := range numbers {
		for _, other := range numbers {
			for _, is := range numbers {
				if is == was {
					continue
				}
				for n := range 4 {
					cold := names.Side{Mine: is, Works: n%2 == 0}
					warm := names.Side{Mine: other, Saved: was, Works: n/2 == 0}
					if found := both(t, warm, cold); !names.Bad(found[0]) || !names.Bad(found[1]) {
						t.Errorf("Both(%v, %v) = %v", warm, cold, found)
					}
					if found := both(t, cold, warm); !names.Bad(found[0]) || !names.Bad(found[1]) {
						t.Errorf("Both(%v, %v) = %v", cold, warm, found)
					}
					if a, b, well := names.After(warm, cold); a != warm || b != cold || well {
						t.Errorf("After(%v, %v) = %v, %v, %v", warm, cold, a, b, well)
					}
				}
			}
		}
	}
}

// One that began cold, and is told that nothing is remembered of it, finds nothing wrong.
func TestAColdStartThatIsNotRememberedIsNotSeenByItself(t *testing.T) {
	if found := both(t, names.Side{Mine: 3}, names.Side{Mine: 1}); found != [2]int{names.New, names.New} {
		t.Errorf("Both = %v", found)
	}
}

// P17.4

func TestBehindAnExchangeTheNextOneIsFine(t *testing.T) {
	r := rand.New(rand.NewSource(174))
	well := 0
	for range 50000 {
		a, b, is := names.After(randomSide(r), randomSide(r))
		if !is {
			continue
		}
		well++
		for n := range 4 { // whatever works came or went
			a.Works, b.Works = n%2 == 0, n/2 == 0
			if found := both(t, a, b); found != [2]int{names.Fine, names.Fine} {
				t.Fatalf("Both(%v, %v) = %v", a, b, found)
			}
			if x, y, is := names.After(a, b); x != a || y != b || !is {
				t.Fatalf("After(%v, %v) = %v, %v, %v", a, b, x, y, is)
			}
		}
	}
	if well < 1000 {
		t.Errorf("only %d without mismatch", well)
	}
}

// P17.5

func TestStrangersFindEachOtherNew(t *testing.T) {
	for _, mine := range numbers {
		for _, theirs := range numbers {
			a, b := names.Side{Mine: mine}, names.Side{Mine: theirs}
			if found := both(t, a, b); found != [2]int{names.New, names.New} {
				t.Errorf("Both(%v, %v) = %v", a, b, found)
			}
			x, y, is := names.After(a, b)
			if x != (names.Side{Mine: mine, Saved: theirs}) || y != (names.Side{Mine: theirs, Saved: mine}) || !is {
				t.Errorf("After(%v, %v) = %v, %v, %v", a, b, x, y, is)
			}
		}
	}
}

// P5 of the whole, so far as names bears it: Forgot, of works, hangs on more than names.

func TestWithoutWorksOnlyAnOldNameIsAMismatch(t *testing.T) {
	for _, a := range sides(3) {
		for _, b := range sides(3) {
			if a.Mine == 0 || b.Mine == 0 || a.Works || b.Works {
				continue
			}
			old := word(a.Saved, b.Mine) == "another" || word(b.Saved, a.Mine) == "another"
			found := both(t, a, b)
			if bad := names.Bad(found[0]) || names.Bad(found[1]); bad != old {
				t.Errorf("Both(%v, %v) = %v", a, b, found)
			}
		}
	}
}

// P1

func TestNoCallPanics(t *testing.T) {
	r := rand.New(rand.NewSource(171))
	for range 50000 {
		a, b := randomSide(r), randomSide(r)
		beforeA, beforeB := a, b
		found, e := names.Both(a, b)
		names.After(a, b)
		names.Check(r.Uint32(), r.Uint32(), r.Uint32(), r.Uint32(), r.Intn(2) == 0)
		n := int(r.Uint64())
		if names.Bad(n) || names.Name(n) != "" {
			t.Fatalf("%d is a finding", n)
		}
		if a != beforeA || b != beforeB {
			t.Fatalf("%v, %v became %v, %v", beforeA, beforeB, a, b)
		}
		if again, f := names.Both(a, b); again != found || f != e {
			t.Fatalf("Both(%v, %v) = %v, %v, then %v, %v", a, b, found, e, again, f)
		}
	}
}
