package conv_test

import (
	"math"
	"math/rand"
	"strings"
	"testing"

	"troth/api"
	"troth/conv"
)

// The document's tables, as texts: a state with + waits, "base" is the side's base, "=" is as it was.

const meetings = `
Send | Receive | 012
Send+ | Confirm | 12
Send+ | ConfirmSend | 12
Send+ | ConfirmEnd | 12
DeferRec | Receive | 2
DeferEnd | Receive | 2
Send+ | Sync | 2
DeferRec+ | SyncSend | 2
DeferEnd+ | SyncEnd | 2
base+ | BackoutDue | 2
Ended | Ended | 012`

const verbs = `
VSend | Send | 012 | = | = | =
VTurn | Send | 012 | Receive | Send | =
VConfirm | Send | 12 | Send+ | Confirm | =
VConfirmTurn | Send | 12 | Send+ | ConfirmSend | =
VConfirmEnd | Send | 12 | Send+ | ConfirmEnd | =
VConfirmed | Confirm | 012 | Receive | Send | =
VConfirmed | ConfirmSend | 012 | Send | Receive | =
VConfirmed | ConfirmEnd | 012 | Ended | Ended | =
VError | Send Receive Confirm ConfirmSend ConfirmEnd Sync SyncSend SyncEnd | 012 | Send | Receive | =
VEnd | Send | 01 | Ended | Ended | =
VAbend | Send Receive Confirm ConfirmSend ConfirmEnd Sync SyncSend SyncEnd BackoutDue DeferRec DeferEnd | 012 | Ended | Ended | =
VSync | Send | 2 | Send+ | Sync | =
VSync | DeferRec | 2 | DeferRec+ | SyncSend | =
VSync | DeferEnd | 2 | DeferEnd+ | SyncEnd | =
VSync | Sync | 2 | Receive | Send | other
VSync | SyncSend | 2 | Send | Receive | it
VSync | SyncEnd | 2 | Ended | Ended | =
VDeferTurn | Send | 2 | DeferRec | = | =
VDeferEnd | Send | 2 | DeferEnd | = | =
VBackout | Send Receive Confirm ConfirmSend ConfirmEnd Sync SyncSend SyncEnd DeferRec DeferEnd | 2 | base+ | BackoutDue | =
VBackout | BackoutDue | 2 | base | base | =`

var stateNumbers = map[string]int{
	"Send": 1, "Receive": 2, "Confirm": 3, "ConfirmSend": 4, "ConfirmEnd": 5, "Sync": 6, "SyncSend": 7,
	"SyncEnd": 8, "BackoutDue": 9, "DeferRec": 10, "DeferEnd": 11, "Ended": 12,
}

var verbNumbers = map[string]int{
	"VSend": 1, "VTurn": 2, "VConfirm": 3, "VConfirmTurn": 4, "VConfirmEnd": 5, "VConfirmed": 6, "VError": 7,
	"VEnd": 8, "VAbend": 9, "VSync": 10, "VDeferTurn": 11, "VDeferEnd": 12, "VBackout": 13,
}

var (
	noSide = []int{math.MinInt, -2, -1, 2, 3, math.MaxInt}
	noVerb = []int{math.MinInt, -1, 0, 14, 15, 256 + 1, math.MaxInt}
)

func rows(table string) [][]string {
	var list [][]string
	for line := range strings.Lines(strings.TrimSpace(table)) {
		list = append(list, strings.Split(strings.TrimSpace(line), " | "))
	}
	return list
}

// sideOf is the side that a table's word tells of; the side i of c.
func sideOf(t *testing.T, c conv.Conv, i int, word string) conv.Side {
	t.Helper()
	if word == "=" {
		return c.Sides[i]
	}
	name, waits := strings.CutSuffix(word, "+")
	if name == "base" {
		name = "Receive"
		if c.Turn == i {
			name = "Send"
		}
	}
	n, ok := stateNumbers[name]
	if !ok {
		t.Fatalf("no state: %q", word)
	}
	return conv.Side{State: n, Waits: waits}
}

// rightOnes is all conversations that the table has.
func rightOnes(t *testing.T) map[conv.Conv]bool {
	t.Helper()
	all := map[conv.Conv]bool{}
	for _, row := range rows(meetings) {
		for _, level := range row[2] {
			for turn := range 2 {
				for one := range 2 {
					c := conv.Conv{Level: int(level - '0'), Turn: turn}
					c.Sides[one] = sideOf(t, c, one, row[0])
					c.Sides[1-one] = sideOf(t, c, 1-one, row[1])
					all[c] = true
				}
			}
		}
	}
	return all
}

// expected is what the tables say of Do.
func expected(t *testing.T, right map[conv.Conv]bool, c conv.Conv, it, verb int) (conv.Conv, api.Errno) {
	t.Helper()
	switch {
	case !right[c] || it < 0 || it > 1:
		return conv.Conv{}, api.ErrArg
	case verb < 1 || verb > 13:
		return conv.Conv{}, api.ErrVerb
	case c.Sides[it].Waits:
		return conv.Conv{}, api.ErrState
	}
	for _, row := range verbRows {
		if verbNumbers[row[0]] != verb || !strings.Contains(row[2], string(rune('0'+c.Level))) {
			continue
		}
		for _, from := range strings.Fields(row[1]) {
			if stateNumbers[from] == c.Sides[it].State {
				return made(t, c, it, row), api.OK
			}
		}
	}
	return conv.Conv{}, api.ErrState
}

var verbRows = rows(verbs)

func made(t *testing.T, c conv.Conv, it int, row []string) conv.Conv {
	t.Helper()
	d := c
	d.Sides[it] = sideOf(t, c, it, row[3])
	d.Sides[1-it] = sideOf(t, c, 1-it, row[4])
	switch row[5] {
	case "it":
		d.Turn = it
	case "other":
		d.Turn = 1 - it
	}
	return d
}

// everyConv yields all conversations that are made of a few numbers each, right or not.
func everyConv(yield func(conv.Conv) bool) {
	for n := range 5 * 4 * 15 * 2 * 15 * 2 {
		take := func(of int) int {
			x := n % of
			n /= of
			return x
		}
		c := conv.Conv{Level: take(5) - 1, Turn: take(4) - 1}
		for i := range c.Sides {
			c.Sides[i] = conv.Side{State: take(15) - 1, Waits: take(2) == 1}
		}
		if !yield(c) {
			return
		}
	}
}

func do(t *testing.T, c conv.Conv, side, verb int) conv.Conv {
	t.Helper()
	d, e := conv.Do(c, side, verb)
	if e != api.OK {
		t.Fatalf("Do(%v, %d, %d): %v", c, side, verb, e)
	}
	return d
}

func refused(t *testing.T, c conv.Conv, side, verb int, want api.Errno) {
	t.Helper()
	if d, e := conv.Do(c, side, verb); e != want || d != (conv.Conv{}) {
		t.Errorf("Do(%v, %d, %d) = %v, %v; want %v", c, side, verb, d, e, want)
	}
}

func begun(t *testing.T, level int) conv.Conv {
	t.Helper()
	c, e := conv.New(level)
	if e != api.OK {
		t.Fatalf("New(%d): %v", level, e)
	}
	return c
}

// P10.1

func TestVerbsHaveTheirNumbers(t *testing.T) {
	list := []int{
		conv.VSend, conv.VTurn, conv.VConfirm, conv.VConfirmTurn, conv.VConfirmEnd, conv.VConfirmed, conv.VError,
		conv.VEnd, conv.VAbend, conv.VSync, conv.VDeferTurn, conv.VDeferEnd, conv.VBackout,
	}
	for i, verb := range list {
		if verb != i+1 {
			t.Errorf("verb %d is %d", i+1, verb)
		}
	}
}

func TestNewIsTheConversationOfThatLevel(t *testing.T) {
	for level := range 3 {
		want := conv.Conv{Level: level}
		want.Sides[0].State = api.Send
		want.Sides[1].State = api.Receive
		if c := begun(t, level); c != want || !conv.Right(c) {
			t.Errorf("New(%d) = %v", level, c)
		}
	}
}

func TestNewOfNoLevel(t *testing.T) {
	for _, level := range []int{math.MinInt, -2, -1, 3, 4, 12, 256, math.MaxInt} {
		if c, e := conv.New(level); e != api.ErrArg || c != (conv.Conv{}) {
			t.Errorf("New(%d) = %v, %v", level, c, e)
		}
	}
}

func TestRightIsWhatTheTableHas(t *testing.T) {
	right := rightOnes(t)
	count := 0
	for c := range everyConv {
		if conv.Right(c) != right[c] {
			t.Fatalf("Right(%v) = %v", c, !right[c])
		}
		if right[c] {
			count++
		}
	}
	if count != len(right) || count == 0 {
		t.Errorf("%d are right; want %d", count, len(right))
	}
}

func TestWhatIsNotRight(t *testing.T) {
	good := begun(t, 2)
	for _, n := range []int{math.MinInt, -1, 13, 256 + 1, math.MaxInt} {
		for i := range 2 {
			c := good
			c.Sides[i].State = n
			if conv.Right(c) {
				t.Errorf("%v is right", c)
			}
		}
		c := good
		c.Level = n
		if conv.Right(c) {
			t.Errorf("%v is right", c)
		}
		c = good
		c.Turn = n
		if conv.Right(c) {
			t.Errorf("%v is right", c)
		}
	}
	if conv.Right(conv.Conv{}) {
		t.Errorf("the zero value is right")
	}
}

// P10.2

func TestTheExample(t *testing.T) {
	c := do(t, begun(t, 2), 0, conv.VSync)
	if c.Sides != [2]conv.Side{{State: api.Send, Waits: true}, {State: api.Sync}} || c.Turn != 0 {
		t.Fatalf("VSync of side 0: %v", c)
	}
	c = do(t, c, 1, conv.VSync)
	if c.Sides != [2]conv.Side{{State: api.Send}, {State: api.Receive}} || c.Turn != 0 || c.Level != 2 {
		t.Fatalf("VSync of side 1: %v", c)
	}
}

func TestDoIsWhatTheTableSays(t *testing.T) {
	right := rightOnes(t)
	done := 0
	for c := range everyConv {
		if !right[c] {
			continue
		}
		for it := range 2 {
			for verb := 1; verb <= 13; verb++ {
				want, wanted := expected(t, right, c, it, verb)
				if got, e := conv.Do(c, it, verb); got != want || e != wanted {
					t.Fatalf("Do(%v, %d, %d) = %v, %v; want %v, %v", c, it, verb, got, e, want, wanted)
				}
				if wanted == api.OK {
					done++
				}
			}
		}
	}
	if done < 100 {
		t.Errorf("only %d verbs may be said", done)
	}
}

func TestDoOfWhatIsNotRight(t *testing.T) {
	right := rightOnes(t)
	for c := range everyConv {
		if right[c] {
			continue
		}
		for side := -1; side <= 2; side++ {
			for _, verb := range []int{-1, 0, 1, conv.VAbend, conv.VBackout, 14} {
				refused(t, c, side, verb, api.ErrArg)
			}
		}
		if t.Failed() {
			return
		}
	}
}

func TestDoOfNoSide(t *testing.T) {
	for c := range rightOnes(t) {
		for _, side := range noSide {
			for verb := 1; verb <= 13; verb++ {
				refused(t, c, side, verb, api.ErrArg)
			}
			for _, verb := range noVerb {
				refused(t, c, side, verb, api.ErrArg)
			}
		}
	}
}

func TestDoOfNoVerb(t *testing.T) {
	for c := range rightOnes(t) {
		for side := range 2 { // also of one that waits, and of one that has ended
			for _, verb := range noVerb {
				refused(t, c, side, verb, api.ErrVerb)
			}
		}
	}
}

func TestASideThatWaitsSaysNothing(t *testing.T) {
	for c := range rightOnes(t) {
		for side := range 2 {
			for verb := 1; c.Sides[side].Waits && verb <= 13; verb++ {
				refused(t, c, side, verb, api.ErrState)
			}
		}
	}
}

func TestLevelsOfVerbs(t *testing.T) {
	for verb, levels := range map[int]string{
		conv.VSend: "012", conv.VTurn: "012", conv.VError: "012", conv.VAbend: "012",
		conv.VConfirm: "12", conv.VConfirmTurn: "12", conv.VConfirmEnd: "12",
		conv.VEnd:  "01",
		conv.VSync: "2", conv.VDeferTurn: "2", conv.VDeferEnd: "2", conv.VBackout: "2",
		conv.VConfirmed: "",
	} {
		for level := range 3 {
			want := api.ErrState
			if strings.Contains(levels, string(rune('0'+level))) {
				want = api.OK
			}
			if _, e := conv.Do(begun(t, level), 0, verb); e != want {
				t.Errorf("verb %d at level %d: %v; want %v", verb, level, e, want)
			}
		}
	}
}

func TestATalk(t *testing.T) {
	c := begun(t, 2)
	for i, step := range []struct {
		side, verb  int
		zero, first string
		turn        int
	}{
		{0, conv.VSend, "Send", "Receive", 0},
		{0, conv.VConfirmTurn, "Send+", "ConfirmSend", 0},
		{1, conv.VConfirmed, "Receive", "Send", 0},
		{1, conv.VConfirm, "Confirm", "Send+", 0},
		{0, conv.VError, "Send", "Receive", 0},
		{0, conv.VDeferTurn, "DeferRec", "Receive", 0},
		{0, conv.VSync, "DeferRec+", "SyncSend", 0},
		{1, conv.VSync, "Receive", "Send", 1},
		{1, conv.VTurn, "Send", "Receive", 1},
		{0, conv.VSync, "Send+", "Sync", 1},
		{1, conv.VBackout, "BackoutDue", "Send+", 1},
		{0, conv.VBackout, "Receive", "Send", 1},
		{0, conv.VBackout, "Receive+", "BackoutDue", 1},
		{1, conv.VBackout, "Receive", "Send", 1},
		{1, conv.VDeferEnd, "Receive", "DeferEnd", 1},
		{1, conv.VSync, "SyncEnd", "DeferEnd+", 1},
		{0, conv.VSync, "Ended", "Ended", 1},
	} {
		c = do(t, c, step.side, step.verb)
		want := conv.Conv{Level: 2, Turn: step.turn}
		want.Sides = [2]conv.Side{sideOf(t, c, 0, step.zero), sideOf(t, c, 1, step.first)}
		if c != want {
			t.Fatalf("step %d: %v; want %v", i, c, want)
		}
	}
	for side := range 2 {
		for verb := 1; verb <= 13; verb++ {
			refused(t, c, side, verb, api.ErrState)
		}
	}
}

// P10.3

func TestWhatDoMakesIsRight(t *testing.T) {
	for c := range rightOnes(t) {
		for side := range 2 {
			for verb := 1; verb <= 13; verb++ {
				if d, e := conv.Do(c, side, verb); e == api.OK && (!conv.Right(d) || d.Level != c.Level) {
					t.Errorf("Do(%v, %d, %d) = %v", c, side, verb, d)
				}
			}
		}
	}
}

// reached is all that verbs make of new conversations.
func reached(t *testing.T) map[conv.Conv]bool {
	t.Helper()
	var work []conv.Conv
	for level := range 3 {
		work = append(work, begun(t, level))
	}
	seen := map[conv.Conv]bool{}
	for len(work) > 0 {
		c := work[0]
		work = work[1:]
		if seen[c] {
			continue
		}
		seen[c] = true
		for side := range 2 {
			for verb := 1; verb <= 13; verb++ {
				if d, e := conv.Do(c, side, verb); e == api.OK {
					work = append(work, d)
				}
			}
		}
	}
	return seen
}

func TestAllThatIsReachedIsHalfDuplex(t *testing.T) {
	seen := reached(t)
	for c := range seen {
		if !conv.Right(c) {
			t.Errorf("%v is reached, and not right", c)
		}
		if c.Sides[0].State == api.Send && c.Sides[1].State == api.Send || c.Sides[0].Waits && c.Sides[1].Waits {
			t.Errorf("%v", c)
		}
	}
	if len(seen) < 40 {
		t.Errorf("only %d are reached", len(seen))
	}
}

// P10.4

func TestASideThatDoesNotWaitCanEndItAtOnce(t *testing.T) {
	ended := [2]conv.Side{{State: api.Ended}, {State: api.Ended}}
	for c := range rightOnes(t) {
		for side := range 2 {
			if c.Sides == ended || c.Sides[side].Waits {
				refused(t, c, side, conv.VAbend, api.ErrState)
			} else if d := do(t, c, side, conv.VAbend); d.Sides != ended || d.Turn != c.Turn {
				t.Errorf("VAbend of %v, side %d: %v", c, side, d)
			}
		}
	}
}

// P10.5

// bases is what the sides are in at a conversation's beginning, and behind a sync point.
func bases(turn int) [2]conv.Side {
	list := [2]conv.Side{{State: api.Receive}, {State: api.Receive}}
	list[turn].State = api.Send
	return list
}

func TestBehindASyncPointTheOneInSendIsTurns(t *testing.T) {
	points := 0
	for c := range rightOnes(t) {
		for side := range 2 {
			asked, e := conv.Do(c, side, conv.VSync)
			if e != api.OK || !asked.Sides[side].Waits {
				continue
			}
			points++
			d := do(t, asked, 1-side, conv.VSync)
			switch c.Sides[side].State {
			case api.DeferEnd:
				if d.Sides != [2]conv.Side{{State: api.Ended}, {State: api.Ended}} || d.Turn != c.Turn {
					t.Errorf("%v ends as %v", c, d)
				}
			case api.DeferRec:
				if d.Turn != 1-side || d.Sides != bases(1-side) {
					t.Errorf("%v goes on as %v", c, d)
				}
			default:
				if d.Turn != side || d.Sides != bases(side) {
					t.Errorf("%v goes on as %v", c, d)
				}
			}
		}
	}
	if points != 2*2*3 { // sides, Turns, states
		t.Errorf("%d sync points", points)
	}
}

func TestBehindABackoutBothAreInTheirBases(t *testing.T) {
	backouts := 0
	for c := range rightOnes(t) {
		for side := range 2 {
			asked, e := conv.Do(c, side, conv.VBackout)
			if e != api.OK || !asked.Sides[side].Waits {
				continue
			}
			backouts++
			if d := do(t, asked, 1-side, conv.VBackout); d.Sides != bases(c.Turn) || d.Turn != c.Turn || d.Level != c.Level {
				t.Errorf("%v is backed out to %v", c, d)
			}
		}
	}
	if backouts < 40 {
		t.Errorf("only %d backouts", backouts)
	}
}

func TestABackoutLeadsBackToTheLastSyncPoint(t *testing.T) {
	r := rand.New(rand.NewSource(105))
	for range 300 {
		c := begun(t, 2)
		last := c
		for range 200 {
			side, verb := r.Intn(2), 1+r.Intn(13)
			d, e := conv.Do(c, side, verb)
			if e != api.OK || d.Sides[0].State == api.Ended {
				continue
			}
			state := c.Sides[side].State
			c = d
			switch {
			case verb == conv.VSync && (state == api.Sync || state == api.SyncSend):
				last = c
			case verb == conv.VBackout && state == api.BackoutDue && c != last:
				t.Fatalf("backed out to %v; the last sync point left %v", c, last)
			}
		}
	}
}

// P10.6

func exchanged(c conv.Conv) conv.Conv {
	return conv.Conv{Level: c.Level, Sides: [2]conv.Side{c.Sides[1], c.Sides[0]}, Turn: 1 - c.Turn}
}

func TestTheSidesAreAlike(t *testing.T) {
	for c := range everyConv {
		if conv.Right(c) != conv.Right(exchanged(c)) {
			t.Fatalf("Right of %v and of it exchanged", c)
		}
		if !conv.Right(c) {
			continue
		}
		for side := range 2 {
			for verb := 0; verb <= 14; verb++ {
				d, e := conv.Do(c, side, verb)
				x, f := conv.Do(exchanged(c), 1-side, verb)
				if e != f || e == api.OK && x != exchanged(d) || e != api.OK && x != d {
					t.Fatalf("Do(%v, %d, %d) = %v, %v; exchanged %v, %v", c, side, verb, d, e, x, f)
				}
			}
		}
	}
}

// P3 of the whole, so far as conversations bear it

func TestOnlyTheOneWhoseTurnItIsSpeaks(t *testing.T) {
	for c := range rightOnes(t) {
		speak := 0
		for side := range 2 {
			_, e := conv.Do(c, side, conv.VSend)
			if e == api.OK {
				speak++
			}
			if mayNow := c.Sides[side] == (conv.Side{State: api.Send}); mayNow != (e == api.OK) {
				t.Errorf("%v, side %d: %v", c, side, e)
			}
		}
		if speak > 1 {
			t.Errorf("%v: both speak", c)
		}
	}
}

func TestTwoProgramsSpeakInTurn(t *testing.T) {
	r := rand.New(rand.NewSource(103))
	for level := range 3 {
		c, speaker, turns := begun(t, level), 0, 0
		for range 20000 {
			side := r.Intn(2)
			if _, e := conv.Do(c, side, conv.VSend); e == api.OK && side != speaker {
				t.Fatalf("%v: side %d speaks, and it is the other one's turn", c, side)
			}
			verb := 1 + r.Intn(13)
			d, e := conv.Do(c, side, verb)
			if e != api.OK || d.Sides[0].State == api.Ended {
				continue
			}
			c = d
			if now := inSend(c, speaker); now != speaker {
				speaker = now
				turns++
			}
		}
		if turns < 400 {
			t.Errorf("level %d: only %d turns", level, turns)
		}
	}
}

// inSend is the side in Send, and the one that was, if none is.
func inSend(c conv.Conv, was int) int {
	for i, s := range c.Sides {
		if s.State == api.Send {
			return i
		}
	}
	return was
}

// P1

func TestNoCallPanics(t *testing.T) {
	r := rand.New(rand.NewSource(109))
	numbers := []int{0, 1, 2, 3, 9, 12, 13, 14, -1, math.MaxInt, math.MinInt}
	some := func() int { return numbers[r.Intn(len(numbers))] }
	for range 200000 {
		c := conv.Conv{Level: some(), Turn: some()}
		for i := range c.Sides {
			c.Sides[i] = conv.Side{State: some(), Waits: r.Intn(2) == 0}
		}
		conv.New(some())
		conv.Right(c)
		before := c
		conv.Do(c, some(), some())
		if c != before {
			t.Fatalf("%v became %v", before, c)
		}
	}
}
