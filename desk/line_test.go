package desk_test

import (
	"math"
	"math/rand"
	"strconv"
	"strings"
	"testing"

	"troth/api"
	"troth/desk"
	"troth/lunet"
)

const most = 1<<62 - 1 // that a line says

// said is lines, each with the step that it says.
var said = []struct {
	line string
	step lunet.Step
}{
	{"link 0 1", lunet.Step{Kind: lunet.Link, B: 1}},
	{"cut 2 1", lunet.Step{Kind: lunet.Cut, A: 2, B: 1}},
	{"serve 3 4", lunet.Step{Kind: lunet.Serve, A: 3, B: 4}},
	{"reset 5 0", lunet.Step{Kind: lunet.Reset, A: 5}},
	{"begin 1", lunet.Step{Kind: lunet.Begin, A: 1}},
	{"tick 2", lunet.Step{Kind: lunet.Tick, A: 2}},
	{"restart 3", lunet.Step{Kind: lunet.Restart, A: 3}},
	{"cold 4", lunet.Step{Kind: lunet.Cold, A: 4}},
	{"attach 1 2 3", lunet.Step{Kind: lunet.Attach, A: 1, W: 2, B: 3}},
	{"sync 4 5", lunet.Step{Kind: lunet.Sync, A: 4, W: 5}},
	{"backout 6 7", lunet.Step{Kind: lunet.Backout, A: 6, W: 7}},
	{"hand 1 2 commit", lunet.Step{Kind: lunet.ByHand, A: 1, W: 2, Commit: true}},
	{"hand 3 4 backout", lunet.Step{Kind: lunet.ByHand, A: 3, W: 4}},
	{"get 1 2 3", lunet.Step{Kind: lunet.Change, A: 1, W: 2, C: api.Change{Kind: 0, Key: 3}}},
	{"put 1 2 3 4", lunet.Step{Kind: lunet.Change, A: 1, W: 2, C: api.Change{Kind: 1, Key: 3, Val: 4}}},
	{"del 5 6 7", lunet.Step{Kind: lunet.Change, A: 5, W: 6, C: api.Change{Kind: 2, Key: 7}}},
	{"push 1 2 3", lunet.Step{Kind: lunet.Change, A: 1, W: 2, C: api.Change{Kind: 3, Val: 3}}},
	{"pop 4 5", lunet.Step{Kind: lunet.Change, A: 4, W: 5, C: api.Change{Kind: 4}}},
	{"crash 1 2", lunet.Step{Kind: lunet.Crash, A: 1, N: 2}},
	{"crash 12 4611686018427387903", lunet.Step{Kind: lunet.Crash, A: 12, N: most}},
	{"put 10 100 1000 4611686018427387903", lunet.Step{Kind: lunet.Change, A: 10, W: 100, C: api.Change{Kind: 1, Key: 1000, Val: most}}},
	{"begin 4611686018427387903", lunet.Step{Kind: lunet.Begin, A: most}},
}

func parses(t *testing.T, line string, want lunet.Step) {
	t.Helper()
	if s, e := desk.Parse(line); s != want || e != api.OK {
		t.Errorf("Parse(%q) = %+v, %v; want %+v", line, s, e, want)
	}
}

func isNoLine(t *testing.T, line string) {
	t.Helper()
	if s, e := desk.Parse(line); s != (lunet.Step{}) || e != api.ErrLine {
		t.Errorf("Parse(%q) = %+v, %v; want ErrLine", line, s, e)
	}
}

func isSaid(t *testing.T, s lunet.Step, want string) {
	t.Helper()
	if line, e := desk.Line(s); line != want || e != api.OK {
		t.Errorf("Line(%+v) = %q, %v; want %q", s, line, e, want)
	}
}

func cannotBeSaid(t *testing.T, s lunet.Step) {
	t.Helper()
	if line, e := desk.Line(s); line != "" || e != api.ErrArg {
		t.Errorf("Line(%+v) = %q, %v; want ErrArg", s, line, e)
	}
}

// P21.1

func TestLinesOfSteps(t *testing.T) {
	for _, x := range said {
		parses(t, x.line, x.step)
		isSaid(t, x.step, x.line)
	}
}

func TestLinesThatAreNone(t *testing.T) {
	for _, line := range []string{
		"", " ", "  ", "\n", "begin 0\n", "begin 0\r", "begin\t0", "\x00", "0", "0 1", "link", "link ", "begin", "begin ", "log", "works 0", "image 0",
		"Begin 0", "BEGIN 0", "begi 0", "beginn 0", "start 0", "A 0", "begin A", "link A B", "hand A W commit",
		"hand 0 0", "hand 0 0 ", "hand 0 0 1", "hand 0 0 commits", "hand 0 0 Commit", "hand 0 0 backou", "hand 0 0 commit 1", "hand 0 commit 0", "hand commit 0 0",
		"pop 0", "push 0 0", "put 0 0 3", "put 0 0 3 9 9", "put 0 0 3 9 9 9 9", "get 0 0", "get 0 0 3 9", "crash 0", "sync 0", "sync 0 0 0", "link 0 1 2",
		"change 0 0 1", "byhand 0 0 commit", "0 begin", "hand", "commit", "link 0 1 link 0 1",
	} {
		isNoLine(t, line)
	}
}

// Each line with a blank too many, one too few, another one, a word too many or too few.
func TestLinesThatAreWrongInOneThing(t *testing.T) {
	for _, x := range said {
		words := strings.Split(x.line, " ")
		for i := range words {
			front, rest := strings.Join(words[:i], " "), strings.Join(words[i:], " ")
			isNoLine(t, front+"  "+rest)
			isNoLine(t, front+"\t"+rest)
			isNoLine(t, front+"\n"+rest)
			isNoLine(t, front+" x "+rest)
			for _, word := range []string{"", "x", "-1", "+1", "01", "1.0", "1e3", "0x1", "1_0", "４", strings.ToUpper(words[0])} {
				wrong := append([]string(nil), words...)
				wrong[i] = word
				isNoLine(t, strings.Join(wrong, " "))
			}
		}
		isNoLine(t, x.line+" ")
		isNoLine(t, x.line+" 0")
		isNoLine(t, x.line+"\n")
		isNoLine(t, strings.Join(words[:len(words)-1], " "))
		isNoLine(t, strings.Join(words[1:], " "))
		isNoLine(t, strings.Join(words, ""))
	}
}

func TestNumbersOfLines(t *testing.T) {
	for _, n := range []int{0, 1, 9, 10, 11, 99, 100, 101, 1 << 31, 1 << 32, 1e18, most - 1, most} {
		parses(t, "crash 0 "+strconv.Itoa(n), lunet.Step{Kind: lunet.Crash, N: n})
	}
	for _, text := range []string{
		"", "00", "01", "007", "-0", "-1", "+1", "1 ", "a", "1a", "a1", "0x1", "1_0", "1.", ".1", "１", "\x001", "1\x00", "/", ":",
		"4611686018427387904", "4611686018427387910", "9223372036854775807", "9223372036854775808", "9999999999999999999",
		"18446744073709551616", "18446744073709551617", "46116860184273879030", strings.Repeat("9", 5000), strings.Repeat("0", 5000), strings.Repeat("0", 25) + "1",
	} {
		isNoLine(t, "crash 0 "+text)
		isNoLine(t, "begin "+text)
		isNoLine(t, "put 0 0 3 "+text)
		isNoLine(t, "put 0 0 "+text+" 9")
		isNoLine(t, "hand "+text+" 0 commit")
	}
}

func TestGreatLinesThatAreNone(t *testing.T) {
	for _, line := range []string{strings.Repeat(" ", 1<<20), strings.Repeat("begin 0 ", 1<<18), strings.Repeat("x", 1<<20), "begin " + strings.Repeat("1", 1<<20)} {
		if s, e := desk.Parse(line); s != (lunet.Step{}) || e != api.ErrLine {
			t.Errorf("a line of %d bytes: %+v, %v", len(line), s, e)
		}
	}
}

func TestKindsThatNoLineSays(t *testing.T) {
	for _, kind := range []int{math.MinInt, -14, -3, -2, -1, 0, 15, 16, 100, 257, math.MaxInt} {
		cannotBeSaid(t, lunet.Step{Kind: kind})
		cannotBeSaid(t, lunet.Step{Kind: kind, A: 1, B: 1, W: 1, N: 1, C: api.Change{Kind: 1, Key: 1, Val: 1}, Commit: true})
	}
	for kind := lunet.Link; kind <= lunet.Cold; kind++ {
		if line, e := desk.Line(lunet.Step{Kind: kind}); line == "" || e != api.OK {
			t.Errorf("the Kind %d: %q, %v", kind, line, e)
		}
	}
	for _, kind := range []int{math.MinInt, -1, 5, 6, 256, 1 << 32, math.MaxInt} {
		cannotBeSaid(t, lunet.Step{Kind: lunet.Change, C: api.Change{Kind: kind}})
		isSaid(t, lunet.Step{Kind: lunet.Link, C: api.Change{Kind: kind}}, "link 0 0")
	}
}

// part is a number of a step.
type part struct {
	letter string
	set    func(s *lunet.Step, n uint64)
}

var parts = []part{
	{"A", func(s *lunet.Step, n uint64) { s.A = int(n) }},
	{"B", func(s *lunet.Step, n uint64) { s.B = int(n) }},
	{"W", func(s *lunet.Step, n uint64) { s.W = int(n) }},
	{"N", func(s *lunet.Step, n uint64) { s.N = int(n) }},
	{"K", func(s *lunet.Step, n uint64) { s.C.Key = int(n) }},
	{"V", func(s *lunet.Step, n uint64) { s.C.Val = n }},
}

// table is the document's: each line with letters for its numbers, and what else its step has.
var table = []struct {
	line string
	step lunet.Step
}{
	{"link A B", lunet.Step{Kind: lunet.Link}},
	{"cut A B", lunet.Step{Kind: lunet.Cut}},
	{"serve A B", lunet.Step{Kind: lunet.Serve}},
	{"reset A B", lunet.Step{Kind: lunet.Reset}},
	{"begin A", lunet.Step{Kind: lunet.Begin}},
	{"tick A", lunet.Step{Kind: lunet.Tick}},
	{"restart A", lunet.Step{Kind: lunet.Restart}},
	{"cold A", lunet.Step{Kind: lunet.Cold}},
	{"attach A W B", lunet.Step{Kind: lunet.Attach}},
	{"sync A W", lunet.Step{Kind: lunet.Sync}},
	{"backout A W", lunet.Step{Kind: lunet.Backout}},
	{"hand A W commit", lunet.Step{Kind: lunet.ByHand, Commit: true}},
	{"hand A W backout", lunet.Step{Kind: lunet.ByHand}},
	{"get A W K", lunet.Step{Kind: lunet.Change}},
	{"put A W K V", lunet.Step{Kind: lunet.Change, C: api.Change{Kind: 1}}},
	{"del A W K", lunet.Step{Kind: lunet.Change, C: api.Change{Kind: 2}}},
	{"push A W V", lunet.Step{Kind: lunet.Change, C: api.Change{Kind: 3}}},
	{"pop A W", lunet.Step{Kind: lunet.Change, C: api.Change{Kind: 4}}},
	{"crash A N", lunet.Step{Kind: lunet.Crash}},
}

// A number that is out of bounds can't be said where it plays a part, and does no harm elsewhere.
func TestNumbersThatCannotBeSaid(t *testing.T) {
	bad := []uint64{1 << 62, 1<<62 + 1, math.MaxInt64, 1 << 63, math.MaxUint64 - 1, math.MaxUint64} // the last ones are below 0 as ints
	for _, x := range table {
		for _, p := range parts {
			plays := strings.Contains(x.line, p.letter)
			for _, n := range bad {
				s := x.step
				p.set(&s, n)
				if plays {
					cannotBeSaid(t, s)
				} else {
					isSaid(t, s, numbered(x.line, nil))
				}
			}
			s := x.step
			p.set(&s, most)
			isSaid(t, s, numbered(x.line, map[string]uint64{p.letter: most}))
		}
	}
}

// numbered is a line of the table with numbers in the places of its letters.
func numbered(line string, numbers map[string]uint64) string {
	words := strings.Split(line, " ")
	for i, word := range words {
		if strings.Contains("ABWNKV", word) {
			words[i] = strconv.FormatUint(numbers[word], 10)
		}
	}
	return strings.Join(words, " ")
}

// Each line of the table, with numbers at random, is parsed as its step; and a step with more than its line has is said by that line.
func TestTheTableAtRandom(t *testing.T) {
	r := rand.New(rand.NewSource(211))
	for range 5000 {
		x := table[r.Intn(len(table))]
		numbers := map[string]uint64{}
		lean, fat := x.step, x.step
		for _, p := range parts {
			n := r.Uint64() >> (2 + r.Intn(62))
			numbers[p.letter] = n
			p.set(&fat, n)
			if strings.Contains(x.line, p.letter) {
				p.set(&lean, n)
			}
		}
		if x.step.Kind != lunet.ByHand {
			fat.Commit = r.Intn(2) == 0
		}
		if x.step.Kind != lunet.Change {
			fat.C.Kind = r.Intn(7) - 1
		}
		line := numbered(x.line, numbers)
		parses(t, line, lean)
		isSaid(t, lean, line)
		isSaid(t, fat, line)
	}
}

// P21.3

// Whatever is parsed is said the same, and whatever is said is parsed.
func TestThereAndBack(t *testing.T) {
	r := rand.New(rand.NewSource(213))
	parsed := 0
	for range 50000 {
		line := anyLine(r)
		s, e := desk.Parse(line)
		if e != api.OK {
			isNoLine(t, line)
			continue
		}
		parsed++
		isSaid(t, s, line)
	}
	if parsed < 5000 {
		t.Errorf("only %d lines are steps'", parsed)
	}
	said := 0
	for range 50000 {
		s := anyStep(r)
		line, e := desk.Line(s)
		if e != api.OK {
			cannotBeSaid(t, s)
			continue
		}
		said++
		again, e := desk.Parse(line)
		if e != api.OK {
			t.Fatalf("Parse(%q): %v", line, e)
		}
		isSaid(t, again, line)
	}
	if said < 5000 {
		t.Errorf("only %d steps are said", said)
	}
}

// anyLine is a line of words at random, many of them of a step's.
func anyLine(r *rand.Rand) string {
	x := strings.Split(table[r.Intn(len(table))].line, " ")
	for i, word := range x {
		if strings.Contains("ABWNKV", word) {
			x[i] = []string{"0", "1", "2", "10", "4611686018427387903", "4611686018427387904", "01", "-1"}[min(r.Intn(24), r.Intn(24), 7)]
		}
	}
	if r.Intn(4) == 0 {
		x[r.Intn(len(x))] = []string{"", "log", "works", "commit", "backout", "hand", "get", "pop", "push"}[r.Intn(9)]
	}
	if r.Intn(10) == 0 {
		x = append(x, "0")
	}
	return strings.Join(x, " ")
}

// anyStep is a step at random, most often one whose numbers can be said.
func anyStep(r *rand.Rand) lunet.Step {
	s := lunet.Step{Kind: r.Intn(17) - 1, Commit: r.Intn(2) == 0, C: api.Change{Kind: r.Intn(7) - 1}}
	for _, p := range parts {
		switch r.Intn(12) {
		case 0:
			p.set(&s, r.Uint64())
		case 1:
			p.set(&s, most)
		default:
			p.set(&s, uint64(r.Intn(20)))
		}
	}
	return s
}
