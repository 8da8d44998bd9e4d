package desk_test

import (
	"fmt"
	"math/rand"
	"slices"
	"strings"
	"testing"

	"troth/api"
	"troth/compare"
	"troth/desk"
	"troth/lunet"
	"troth/luw"
)

// scribe writes a script at random, beside a world that does its steps; from that world comes what the script has to tell.
type scribe struct {
	r            *rand.Rand
	n            int
	w            *lunet.World
	script, want strings.Builder
	counts       map[string]int
}

func newScribe(t *testing.T, seed int64, counts map[string]int) (*scribe, int) {
	r := rand.New(rand.NewSource(seed))
	n, room := 1+r.Intn(4), 2048+r.Intn(3000)
	w, e := lunet.New(n, room)
	if e != api.OK {
		t.Fatalf("New: %v", e)
	}
	return &scribe{r: r, n: n, w: w, counts: counts}, room
}

func (x *scribe) line(line, told string) {
	x.script.WriteString(line + "\n")
	x.want.WriteString(told + "\n")
}

// step writes a step's line: most often one that can be, else any of the table.
func (x *scribe) step() {
	numbers := map[string]uint64{
		"A": uint64(x.r.Intn(x.n)), "B": uint64(x.r.Intn(x.n)), "W": uint64(max(0, len(x.w.Luws())-x.r.Intn(5))),
		"N": uint64(x.r.Intn(90)), "K": uint64(x.r.Intn(4)), "V": uint64(x.r.Intn(1000)),
	}
	if x.r.Intn(20) == 0 {
		if x.r.Intn(4) == 0 {
			numbers[parts[x.r.Intn(len(parts))].letter] = x.r.Uint64() >> (2 + x.r.Intn(62))
		}
		x.do(table[x.r.Intn(len(table))].line, numbers)
		return
	}
	if !x.betweenUnits(numbers) {
		x.ofUnit(numbers)
	}
}

// betweenUnits writes a line that has units come up, linked, or a message be served, and tells whether it did.
func (x *scribe) betweenUnits(numbers map[string]uint64) bool {
	for a := range x.n {
		numbers["A"] = uint64(a)
		if x.w.Unit(a) == nil && x.r.Intn(4) == 0 {
			x.do([]string{"restart A", "restart A", "restart A", "cold A"}[x.r.Intn(4)], numbers)
			return true
		}
		for b := range x.n {
			numbers["B"] = uint64(b)
			switch _, _, _, bad := x.w.Unit(a).Peer(b); {
			case bad && x.r.Intn(8) == 0:
				x.do("reset A B", numbers)
				return true
			case a != b && !x.w.Linked(a, b) && x.w.Unit(a) != nil && x.w.Unit(b) != nil && x.r.Intn(6) == 0:
				x.do("link A B", numbers)
				return true
			case len(x.w.Row(a, b)) > 0 && x.r.Intn(4) == 0:
				x.do("serve A B", numbers)
				return true
			}
		}
	}
	return false
}

// ofUnit writes a line that a work of a unit may be at, or one that troubles the unit.
func (x *scribe) ofUnit(numbers map[string]uint64) {
	a := x.r.Intn(x.n)
	numbers["A"], numbers["B"] = uint64(a), uint64(x.r.Intn(x.n))
	list := x.w.Unit(a).Works()
	if len(list) == 0 || len(list) < 3 && x.r.Intn(5) == 0 {
		x.do("begin A", numbers)
		return
	}
	w := list[x.r.Intn(len(list))]
	numbers["W"] = uint64(slices.Index(x.w.Luws(), w.Luw))
	lines := []string{"tick A", "tick A"}
	if x.r.Intn(5) == 0 {
		lines = append(lines, "cut A B", "crash A N", "backout A W")
	}
	switch w.State {
	case compare.Active:
		lines = append(lines, "attach A W B", "attach A W B", "attach A W B", "attach A W B", "attach A W B", "sync A W",
			"get A W K", "put A W K V", "put A W K V", "del A W K", "push A W V", "push A W V", "pop A W")
	case compare.Doubt:
		lines = append(lines, "hand A W commit", "hand A W backout")
	}
	x.do(lines[x.r.Intn(len(lines))], numbers)
}

func (x *scribe) do(line string, numbers map[string]uint64) {
	var s lunet.Step
	for _, row := range table {
		if row.line == line {
			s = row.step
		}
	}
	for _, p := range parts {
		if strings.Contains(line, p.letter) {
			p.set(&s, numbers[p.letter])
		}
	}
	val, e := x.w.Do(s)
	told := "ok"
	switch {
	case e != api.OK:
		told = fmt.Sprintf("error %d", int(e))
	case strings.HasPrefix(line, "get") || strings.HasPrefix(line, "pop"):
		told = fmt.Sprintf("ok %d", val)
	}
	x.counts[strings.Fields(line)[0]+" "+strings.Fields(told)[0]]++
	x.line(numbered(line, numbers), told)
}

// look writes one of the lines that look alone.
func (x *scribe) look() {
	a := x.r.Intn(x.n + 1)
	u := x.w.Unit(a)
	told := "ok"
	switch n := x.r.Intn(5); {
	case n == 4:
		for _, e := range x.w.Log() {
			told += fmt.Sprintf(" %d/%d/%s", e.Unit, e.E.Kind, luw.Print(e.E.Luw))
		}
		x.line("log", told)
	case u == nil:
		x.line(fmt.Sprintf("%s %d", []string{"works", "image"}[n/2], a), "error 90")
	case n < 2:
		for _, w := range u.Works() {
			told += " " + luw.Print(w.Luw) + "/" + compare.Name(w.State) + "/" + strings.Trim(strings.ReplaceAll(fmt.Sprint(w.Kids), " ", ""), "[]")
			x.counts[compare.Name(w.State)]++
		}
		x.line(fmt.Sprintf("works %d", a), told)
	default:
		for _, p := range u.Image().Pairs {
			told += fmt.Sprintf(" %d=%d", p.Key, p.Val)
		}
		for _, val := range u.Image().Items {
			told += fmt.Sprintf(" %d", val)
		}
		x.line(fmt.Sprintf("image %d", a), told)
	}
}

// wrong writes a line that is none.
func (x *scribe) wrong() {
	x.line([]string{"", " ", "works", "image x", "log 0", "begin", "tick 01", "link 0", "\x00\xff", "sync 0 0 0"}[x.r.Intn(10)], "error 210")
}

// meet has all units know each other, most often.
func (x *scribe) meet() {
	for a := range x.n {
		for b := range a {
			here, there := map[string]uint64{"A": uint64(a), "B": uint64(b)}, map[string]uint64{"A": uint64(b), "B": uint64(a)}
			x.do("link A B", here)
			if x.r.Intn(6) > 0 {
				x.do("serve A B", here)
				x.do("serve A B", there)
			}
		}
	}
}

func (x *scribe) write(lines int) {
	x.meet()
	for strings.Count(x.script.String(), "\n") < lines {
		switch n := x.r.Intn(40); {
		case n == 0:
			x.wrong()
		case n < 8:
			x.look()
		default:
			x.step()
		}
	}
}

// P10, P21.2 and P21.4: a script tells what its steps tell, and what a front of it tells is the beginning of that.
func TestScriptsAtRandom(t *testing.T) {
	counts := map[string]int{}
	for seed := range int64(500) {
		x, room := newScribe(t, seed, counts)
		x.write(40 + x.r.Intn(400))
		script, want := x.script.String(), x.want.String()
		told, e := desk.Run(x.n, room, script)
		if e != api.OK || told != want {
			t.Fatalf("seed %d: %v; %s", seed, e, differ(script, told, want))
		}
		frontsTell(t, x.r, x.n, room, script, told)
	}
	for _, row := range table {
		word := strings.Fields(row.line)[0]
		if counts[word+" ok"] < 20 || !strings.Contains(" begin tick ", word) && counts[word+" error"] < 5 {
			t.Errorf("%s: %d times ok, %d times an error", word, counts[word+" ok"], counts[word+" error"])
		}
	}
	for state := compare.Active; state <= compare.HeurBackout; state++ {
		if counts[compare.Name(state)] == 0 {
			t.Errorf("no work is %s", compare.Name(state))
		}
	}
}

// frontsTell holds what the fronts of a script tell to be the beginning of what all of it tells.
func frontsTell(t *testing.T, r *rand.Rand, n, room int, script, told string) {
	t.Helper()
	lines, tells := strings.SplitAfter(script, "\n"), strings.SplitAfter(told, "\n")
	for range 4 {
		at := r.Intn(len(lines))
		front := strings.Join(lines[:at], "")
		if r.Intn(2) == 0 && !strings.HasSuffix(front, "\n\n") && front != "\n" {
			front = strings.TrimSuffix(front, "\n")
		}
		if got, e := desk.Run(n, room, front); e != api.OK || got != strings.Join(tells[:at], "") {
			t.Fatalf("the first %d lines tell %q, %v; all %q", at, got, e, told)
		}
	}
}

// differ is the first line that tells something else than it has to.
func differ(script, told, want string) string {
	lines, got, all := strings.Split(script, "\n"), strings.Split(told, "\n"), strings.Split(want, "\n")
	for i := range min(len(lines), len(got), len(all)) {
		if got[i] != all[i] {
			return fmt.Sprintf("line %d, %q: %q; want %q", i, lines[i], got[i], all[i])
		}
	}
	return fmt.Sprintf("%d lines are told; want %d", len(got), len(all))
}

// P1: whatever a script is, it is played, and each line of it tells one line, which is ok or an error.
func TestAnyScript(t *testing.T) {
	r := rand.New(rand.NewSource(217))
	for range 400 {
		var script strings.Builder
		for range r.Intn(400) {
			switch r.Intn(4) {
			case 0:
				b := make([]byte, r.Intn(12))
				r.Read(b)
				script.Write(b)
			default:
				script.WriteString(anyLine(r))
			}
			script.WriteString("\n")
		}
		n, room := r.Intn(9)-1, 2040+r.Intn(64)*1024
		told, e := desk.Run(n, room, script.String())
		if fits := 1 <= n && n <= 6 && 2048 <= room && room <= 65536; !fits {
			if told != "" || e != api.ErrArg {
				t.Fatalf("Run(%d, %d): %v", n, room, e)
			}
			continue
		}
		if e != api.OK || strings.Count(told, "\n") != strings.Count(script.String(), "\n") {
			t.Fatalf("Run(%d, %d): %v", n, room, e)
		}
		for line := range strings.Lines(told) {
			if line != "ok\n" && !strings.HasPrefix(line, "ok ") && !strings.HasPrefix(line, "error ") {
				t.Fatalf("%q is told", line)
			}
		}
	}
}

// The same script tells the same, however often it is played.
func TestScriptsTellTheSame(t *testing.T) {
	for seed := range int64(10) {
		x, room := newScribe(t, 1000+seed, map[string]int{})
		x.write(300)
		first, _ := desk.Run(x.n, room, x.script.String())
		for range 5 {
			if again, _ := desk.Run(x.n, room, x.script.String()); again != first {
				t.Fatalf("seed %d tells %q, and then %q", seed, first, again)
			}
		}
	}
}
