package compare_test

import (
	"math"
	"math/rand"
	"testing"

	"troth/api"
	"troth/compare"
)

// told is what becomes of a state that is told an outcome.
type told struct {
	state  int
	damage bool
	e      api.Errno
}

// states is all that the chapter says of each state; its numbers stand for the states' names.
var states = []struct {
	name           string
	open           bool
	answer         int
	commit, backed told // told Committed, and Backed
}{
	{"none", false, 5, told{0, false, 0}, told{0, false, 0}},
	{"active", true, 0, told{0, false, api.ErrState}, told{5, false, 0}},
	{"pending", true, 0, told{0, false, api.ErrState}, told{5, false, 0}},
	{"doubt", true, 0, told{4, false, 0}, told{5, false, 0}},
	{"committed", false, 4, told{4, false, 0}, told{4, true, 0}},
	{"backed", false, 5, told{5, true, 0}, told{5, false, 0}},
	{"heurcommit", false, 4, told{4, false, 0}, told{4, true, 0}},
	{"heurbackout", false, 5, told{5, true, 0}, told{5, false, 0}},
}

var (
	noState   = []int{math.MinInt, -256, -8, -1, 8, 9, 12, 255, 256, 256 + 3, 1<<32 + 3, math.MaxInt}
	noOutcome = []int{math.MinInt, -256 + 4, -5, -4, -1, 0, 1, 2, 3, 6, 7, 8, 256 + 4, 256 + 5, 1<<32 + 4, math.MaxInt}
	outcomes  = []int{compare.Committed, compare.Backed}
)

// learn is what becomes of a state that may be told that outcome.
func learn(t *testing.T, state, outcome int) (int, bool) {
	t.Helper()
	next, damage, e := compare.Learn(state, outcome)
	if e != api.OK {
		t.Fatalf("Learn(%d, %d): %v", state, outcome, e)
	}
	return next, damage
}

// answer is what a state tells.
func answer(t *testing.T, state int) int {
	t.Helper()
	outcome, e := compare.Answer(state)
	if e != api.OK {
		t.Fatalf("Answer(%d): %v", state, e)
	}
	return outcome
}

// decide is what becomes of a work in doubt by hand.
func decide(t *testing.T, commit bool) int {
	t.Helper()
	state, e := compare.Decide(compare.Doubt, commit)
	if e != api.OK {
		t.Fatalf("Decide(Doubt, %v): %v", commit, e)
	}
	return state
}

func learnIs(t *testing.T, state, outcome int, want told) {
	t.Helper()
	if next, damage, e := compare.Learn(state, outcome); (told{next, damage, e}) != want {
		t.Errorf("Learn(%d, %d) = %d, %v, %v; want %v", state, outcome, next, damage, e, want)
	}
}

// P18.1

func TestTheExamples(t *testing.T) {
	learnIs(t, compare.Doubt, compare.Committed, told{compare.Committed, false, api.OK})
	learnIs(t, compare.HeurBackout, compare.Committed, told{compare.Backed, true, api.OK})
	if got, e := compare.Answer(compare.Doubt); got != 0 || e != api.OK {
		t.Errorf("Answer(Doubt) = %d, %v", got, e)
	}
}

func TestStatesHaveTheirNumbers(t *testing.T) {
	for i, n := range []int{
		compare.None, compare.Active, compare.Pending, compare.Doubt,
		compare.Committed, compare.Backed, compare.HeurCommit, compare.HeurBackout,
	} {
		if n != i {
			t.Errorf("state %d is %d", i, n)
		}
	}
}

func TestLearnIsWhatTheWordsSay(t *testing.T) {
	for state, x := range states {
		learnIs(t, state, compare.Committed, x.commit)
		learnIs(t, state, compare.Backed, x.backed)
	}
}

func TestLearnOfNoState(t *testing.T) {
	wrong := told{0, false, api.ErrArg}
	for _, state := range noState {
		for _, outcome := range append(noOutcome, outcomes...) {
			learnIs(t, state, outcome, wrong)
		}
	}
}

// No outcome is ErrArg also of a state that may not be told every one.
func TestLearnOfNoOutcome(t *testing.T) {
	for state := range states {
		for _, outcome := range noOutcome {
			learnIs(t, state, outcome, told{0, false, api.ErrArg})
		}
	}
}

func TestAnswerIsWhatTheWordsSay(t *testing.T) {
	for state, x := range states {
		if got, e := compare.Answer(state); got != x.answer || e != api.OK {
			t.Errorf("Answer(%d) = %d, %v; want %d", state, got, e, x.answer)
		}
	}
	for _, state := range noState {
		if got, e := compare.Answer(state); got != 0 || e != api.ErrArg {
			t.Errorf("Answer(%d) = %d, %v", state, got, e)
		}
	}
}

// P18.2

func TestDecideIsOfDoubtAlone(t *testing.T) {
	if got := decide(t, true); got != compare.HeurCommit {
		t.Errorf("Decide(Doubt, true) = %d", got)
	}
	if got := decide(t, false); got != compare.HeurBackout {
		t.Errorf("Decide(Doubt, false) = %d", got)
	}
	for state := range states {
		for _, commit := range []bool{false, true} {
			if got, e := compare.Decide(state, commit); state != compare.Doubt && (got != 0 || e != api.ErrState) {
				t.Errorf("Decide(%d, %v) = %d, %v", state, commit, got, e)
			}
		}
	}
}

func TestDecideOfNoState(t *testing.T) {
	for _, state := range noState {
		for _, commit := range []bool{false, true} {
			if got, e := compare.Decide(state, commit); got != 0 || e != api.ErrArg {
				t.Errorf("Decide(%d, %v) = %d, %v", state, commit, got, e)
			}
		}
	}
}

func TestOpenAndNameOfStates(t *testing.T) {
	for state, x := range states {
		if got := compare.Open(state); got != x.open {
			t.Errorf("Open(%d) = %v", state, got)
		}
		if got := compare.Name(state); got != x.name {
			t.Errorf("Name(%d) = %q; want %q", state, got, x.name)
		}
	}
}

func TestOpenAndNameOfWhatIsNoState(t *testing.T) {
	for _, n := range noState {
		if compare.Open(n) {
			t.Errorf("%d is open", n)
		}
		if got := compare.Name(n); got != "" {
			t.Errorf("Name(%d) = %q", n, got)
		}
	}
}

// P18.3

func TestWhatWasLearntIsDecided(t *testing.T) {
	learnt := 0
	for state := range states {
		for _, outcome := range outcomes {
			next, damage, e := compare.Learn(state, outcome)
			if e != api.OK {
				continue
			}
			learnt++
			if compare.Open(next) || answer(t, next) == 0 {
				t.Errorf("Learn(%d, %d) = %d, which is not decided", state, outcome, next)
			}
			learnIs(t, next, outcome, told{next, damage, api.OK})
		}
	}
	if learnt != 14 {
		t.Errorf("%d learnt", learnt)
	}
}

// What the other outcome tells then changes nothing any more.
func TestWhatWasLearntStays(t *testing.T) {
	for state := range states {
		for _, outcome := range outcomes {
			for _, other := range outcomes {
				next, _, e := compare.Learn(state, outcome)
				if e != api.OK {
					continue
				}
				if again, _ := learn(t, next, other); again != next {
					t.Errorf("Learn(%d, %d) = %d", next, other, again)
				}
			}
		}
	}
}

// P18.4

func TestDamageIsWhereWhatWasDoneIsNotTheOutcome(t *testing.T) {
	for state := range states {
		did := answer(t, state)
		for _, outcome := range outcomes {
			_, damage, _ := compare.Learn(state, outcome)
			apart := state != compare.None && did != 0 && did != outcome // where there is no work nothing was done
			if damage != apart {
				t.Errorf("Learn(%d, %d): damage %v; it did %d", state, outcome, damage, did)
			}
		}
	}
}

func TestThereIsNoDamageWithoutADecisionByHand(t *testing.T) {
	for _, outcome := range outcomes {
		for _, state := range []int{compare.None, compare.Active, compare.Pending, compare.Doubt} {
			for n := range 5 { // told the same outcome again and again
				next, damage, e := compare.Learn(state, outcome)
				if damage || e != api.OK && (n > 0 || e != api.ErrState) {
					t.Errorf("Learn(%d, %d), for the %dth time: %v, %v", state, outcome, n, damage, e)
				}
				if e != api.OK {
					break
				}
				state = next
			}
		}
	}
}

func TestADecisionByHandIsDamageJustIfItIsNotTheOutcome(t *testing.T) {
	for _, x := range []struct {
		commit        bool
		outcome, next int
		damage        bool
	}{
		{true, compare.Committed, compare.Committed, false},
		{true, compare.Backed, compare.Committed, true},
		{false, compare.Committed, compare.Backed, true},
		{false, compare.Backed, compare.Backed, false},
	} {
		state := decide(t, x.commit)
		for range 3 { // and told once more it is damage still
			next, damage := learn(t, state, x.outcome)
			if next != x.next || damage != x.damage {
				t.Errorf("by hand %v, told %d: Learn(%d) = %d, %v", x.commit, x.outcome, state, next, damage)
			}
			state = next
		}
	}
}

// P18.5

func TestWhoAsksIsToldWhatWasDone(t *testing.T) {
	for _, outcome := range outcomes {
		next, _ := learn(t, compare.Doubt, outcome)
		if got := answer(t, next); got != outcome {
			t.Errorf("it learnt %d, and answers %d", outcome, got)
		}
		for _, commit := range []bool{false, true} {
			did := compare.Backed
			if commit {
				did = compare.Committed
			}
			state := decide(t, commit)
			if got := answer(t, state); got != did {
				t.Errorf("by hand %v: it answers %d", commit, got)
			}
			next, _ := learn(t, state, outcome)
			if got := answer(t, next); got != did {
				t.Errorf("by hand %v, told %d: it answers %d", commit, outcome, got)
			}
		}
	}
	for _, state := range []int{compare.Active, compare.Pending, compare.Doubt} {
		if got := answer(t, state); got != 0 {
			t.Errorf("state %d, which has done nothing yet, answers %d", state, got)
		}
	}
}

// One in doubt that asks, and is told what the other one did, does the same.
func TestWhoAsksDoesTheSame(t *testing.T) {
	for state := range states {
		outcome := answer(t, state)
		if outcome == 0 {
			continue
		}
		if next, damage := learn(t, compare.Doubt, outcome); answer(t, next) != outcome || damage {
			t.Errorf("state %d tells %d, and it becomes %d, %v", state, outcome, next, damage)
		}
	}
}

// P1

func TestNoCallPanics(t *testing.T) {
	r := rand.New(rand.NewSource(181))
	pick := func() int {
		if r.Intn(2) == 0 {
			return r.Intn(12) - 2
		}
		return int(r.Uint64())
	}
	for range 50000 {
		state, outcome, commit := pick(), pick(), r.Intn(2) == 0
		next, damage, e := compare.Learn(state, outcome)
		if e != api.OK && (next != 0 || damage) {
			t.Fatalf("Learn(%d, %d) = %d, %v, %v", state, outcome, next, damage, e)
		}
		if got, e := compare.Answer(state); e != api.OK && got != 0 {
			t.Fatalf("Answer(%d) = %d, %v", state, got, e)
		}
		if got, e := compare.Decide(state, commit); e != api.OK && got != 0 {
			t.Fatalf("Decide(%d, %v) = %d, %v", state, commit, got, e)
		}
		if isState := state >= 0 && state < len(states); !isState && (compare.Open(state) || compare.Name(state) != "") {
			t.Fatalf("%d is a state", state)
		}
	}
}
