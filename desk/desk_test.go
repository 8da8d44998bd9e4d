package desk_test

import (
	"math"
	"strconv"
	"strings"
	"testing"

	"troth/api"
	"troth/desk"
)

// run plays a script in a world of n units, tapes of 4096 bytes.
func run(t *testing.T, n int, script string) string {
	t.Helper()
	told, e := desk.Run(n, 4096, script)
	if e != api.OK {
		t.Fatalf("Run: %v", e)
	}
	return told
}

// plays holds a script to what it tells: rows of a line, an arrow, and what is told; a row without an arrow tells ok.
func plays(t *testing.T, n int, rows ...string) {
	t.Helper()
	var script, want strings.Builder
	for _, row := range rows {
		line, told, arrow := strings.Cut(row, " -> ")
		if !arrow {
			told = "ok"
		}
		script.WriteString(line + "\n")
		want.WriteString(told + "\n")
	}
	got := strings.Split(run(t, n, script.String()), "\n")
	for i, told := range strings.Split(want.String(), "\n") {
		if i >= len(got) || got[i] != told {
			t.Fatalf("row %d: %q; want %v of %q", i, got, told, rows[min(i, len(rows)-1)])
		}
	}
	if len(got) != len(rows)+1 {
		t.Fatalf("%d lines are told; want %d", len(got)-1, len(rows))
	}
}

// begun is the script of the document's examples.
var begun = []string{"link 0 1", "serve 0 1", "serve 1 0", "begin 0", "attach 0 0 1", "serve 0 1", "put 1 0 3 9", "sync 0 0"}

// behind plays rows behind that script.
func behind(t *testing.T, rows ...string) {
	t.Helper()
	plays(t, 2, append(append([]string(nil), begun...), rows...)...)
}

// The ten examples of the document, and the chapter's.

func TestExamples(t *testing.T) {
	behind(t, "works 0 -> ok a1.65537/pending/1", "works 1 -> ok a1.65537/active/")
	behind(t, "serve 0 1", "works 1 -> ok a1.65537/doubt/")
	behind(t, "serve 0 1", "serve 1 0", "log -> ok 0/1/a1.65537")
	behind(t, "serve 0 1", "serve 1 0", "serve 0 1", "image 1 -> ok 3=9")
	behind(t, "serve 0 1", "serve 1 0", "serve 0 1", "serve 1 0", "serve 0 1", "works 0", "works 1")
	behind(t, "serve 0 1", "crash 1 0", "log -> ok 0/2/a1.65537")
	behind(t, "serve 0 1", "crash 1 0", "restart 1", "works 1 -> ok a1.65537/doubt/")
	behind(t, "serve 0 1", "crash 1 0", "restart 1", "hand 1 0 commit", "image 1 -> ok 3=9")
	behind(t, "serve 0 1", "crash 1 0", "cold 1", "link 0 1", "serve 1 0", "log -> ok 0/2/a1.65537 0/6/")
	behind(t, "serve 0 1", "serve 0 1 -> error 4")
	plays(t, 1, "begin 0", "put 0 0 3 9", "sync 0 0", "image 0 -> ok 3=9", "log -> ok 0/1/a1.65537 0/5/a1.65537")
}

// P21.2: the lines of a script

func TestNoLines(t *testing.T) {
	if told := run(t, 1, ""); told != "" {
		t.Errorf("no lines tell %q", told)
	}
}

func TestEndsOfLines(t *testing.T) {
	for script, want := range map[string]string{
		"begin 0":             "ok\n",
		"begin 0\n":           "ok\n",
		"begin 0\nworks 0":    "ok\nok a1.65537/active/\n",
		"\n":                  "error 210\n",
		"\n\n":                "error 210\nerror 210\n",
		"\nbegin 0":           "error 210\nok\n",
		"begin 0\n\nlog\n":    "ok\nerror 210\nok\n",
		"begin 0\n\n":         "ok\nerror 210\n",
		" ":                   "error 210\n",
		"begin 0\n ":          "ok\nerror 210\n",
		"begin 0\r\nlog\r\n":  "error 210\nerror 210\n",
		"begin 0\x00\nlog":    "error 210\nok\n",
		"begin 0 \n log\nlog": "error 210\nerror 210\nok\n",
	} {
		if told := run(t, 1, script); told != want {
			t.Errorf("%q tells %q; want %q", script, told, want)
		}
	}
}

func runRefused(t *testing.T, n, room int, script string, want api.Errno) {
	t.Helper()
	if told, e := desk.Run(n, room, script); told != "" || e != want {
		t.Errorf("Run(%d, %d, %d bytes) = %d bytes, %v; want %v", n, room, len(script), len(told), e, want)
	}
}

func TestWorldsThatAreNone(t *testing.T) {
	long := strings.Repeat("\n", api.MaxScript+1)
	for _, script := range []string{"", "begin 0\n", long} {
		for _, n := range []int{math.MinInt, -1, 0, 7, 8, math.MaxInt} {
			runRefused(t, n, 4096, script, api.ErrArg)
		}
		for _, room := range []int{math.MinInt, -1, 0, 2047, 65537, math.MaxInt} {
			runRefused(t, 2, room, script, api.ErrArg)
		}
	}
	for n := 1; n <= 6; n++ {
		for _, room := range []int{2048, 65536} {
			script := "works " + strconv.Itoa(n-1) + "\nworks " + strconv.Itoa(n)
			if told, e := desk.Run(n, room, script); told != "ok\nerror 90\n" || e != api.OK {
				t.Errorf("Run(%d, %d): %q, %v", n, room, told, e)
			}
		}
	}
}

func TestScriptsThatAreTooLong(t *testing.T) {
	for line, told := range map[string]string{"": "error 210\n", "log": "ok\n", "works 0": "ok\n", "tick 0": "ok\n"} {
		all := strings.Repeat(line+"\n", api.MaxScript)
		if got := run(t, 1, all); got != strings.Repeat(told, api.MaxScript) {
			t.Errorf("2048 times %q tells %d bytes", line, len(got))
		}
		runRefused(t, 1, 4096, all+"x", api.ErrLong)
		runRefused(t, 1, 4096, all+line+"\n", api.ErrLong)
		runRefused(t, 1, 4096, all+all, api.ErrLong)
	}
	lacking := strings.Repeat("tick 0\n", api.MaxScript-1) + "tick 0"
	if got := run(t, 1, lacking); got != strings.Repeat("ok\n", api.MaxScript) {
		t.Errorf("the last line may lack its end: %d bytes", len(got))
	}
	runRefused(t, 1, 4096, lacking+"\n\n", api.ErrLong)
}

// Each Run is a world of its own.
func TestWorldsAreNew(t *testing.T) {
	for range 3 {
		plays(t, 2, "log", "works 0", "image 0", "begin 0", "put 0 0 1 1", "sync 0 0", "image 0 -> ok 1=1")
	}
}

// P21.2: what is told

func TestWhatIsNoLine(t *testing.T) {
	plays(t, 2,
		"works -> error 210", "works  -> error 210", "works 0 0 -> error 210", "works 00 -> error 210", "works -1 -> error 210", "works a -> error 210",
		"image -> error 210", "image 0 1 -> error 210", "image 4611686018427387904 -> error 210", "log 0 -> error 210", "log  -> error 210", " log -> error 210",
		"logs -> error 210", "Log -> error 210", "work 0 -> error 210", "images 0 -> error 210", "show 0 -> error 210", "0 -> error 210", "begin -> error 210",
		"works 0", "image 0", "log")
}

// A line that is none changes nothing.
func TestWhatIsNoLinePlaysNoPart(t *testing.T) {
	behind(t, "serve 0 1 0 -> error 210", "works 1 -> ok a1.65537/active/", "crash 1 -> error 210", "works 1 -> ok a1.65537/active/", "serve 0 1", "works 1 -> ok a1.65537/doubt/")
}

func TestUnitsThatCannotBeLookedAt(t *testing.T) {
	plays(t, 2, "works 2 -> error 90", "image 2 -> error 90", "works 4611686018427387903 -> error 90", "image 4611686018427387903 -> error 90",
		"crash 1 0", "works 1 -> error 90", "image 1 -> error 90", "works 0", "image 0", "restart 1", "works 1", "image 1")
}

// The steps' own errors are told as they are.
func TestErrorsOfSteps(t *testing.T) {
	plays(t, 2, "begin 2 -> error 1", "tick 2 -> error 1", "link 0 0 -> error 1", "link 0 2 -> error 1", "cut 0 1 -> error 7", "serve 0 1 -> error 4",
		"sync 0 0 -> error 4", "get 0 0 3 -> error 4", "hand 0 0 commit -> error 4", "restart 0 -> error 7", "cold 0 -> error 7", "reset 0 1 -> error 7", "reset 0 0 -> error 1",
		"link 0 1", "link 1 0 -> error 7", "begin 0", "sync 1 0 -> error 4", "attach 0 0 1 -> error 170", "attach 0 0 0 -> error 1",
		"put 0 0 16 1 -> error 1", "del 0 0 16 -> error 1", "pop 0 0 -> error 140", "hand 0 0 backout -> error 7",
		"put 0 0 3 9", "begin 0", "get 0 1 3 -> error 120",
		"crash 0 4611686018427387903", "crash 0 0 -> error 90", "begin 0 -> error 90", "tick 0 -> error 90", "link 0 1 -> error 90", "get 0 0 3 -> error 90",
		"begin 4611686018427387903 -> error 1", "sync 1 4611686018427387903 -> error 4", "attach 1 0 4611686018427387903 -> error 1")
}

func TestWhatGetAndPopTell(t *testing.T) {
	plays(t, 1, "begin 0", "get 0 0 3 -> ok 0", "put 0 0 3 4611686018427387903", "get 0 0 3 -> ok 4611686018427387903", "del 0 0 3", "get 0 0 3 -> ok 0",
		"push 0 0 7", "push 0 0 0", "sync 0 0", "begin 0", "pop 0 1 -> ok 7", "pop 0 1 -> ok 0", "pop 0 1 -> error 140", "sync 0 1", "image 0")
}

func TestWhatImageTells(t *testing.T) {
	plays(t, 1, "image 0", "begin 0", "push 0 0 5", "image 0", "put 0 0 15 4611686018427387903", "put 0 0 2 0", "push 0 0 4611686018427387903", "push 0 0 5", "image 0",
		"sync 0 0", "image 0 -> ok 2=0 15=4611686018427387903 5 4611686018427387903 5",
		"begin 0", "del 0 1 2", "del 0 1 15", "sync 0 1", "image 0 -> ok 5 4611686018427387903 5",
		"begin 0", "put 0 2 0 1", "pop 0 2 -> ok 5", "pop 0 2 -> ok 4611686018427387903", "pop 0 2 -> ok 5", "sync 0 2", "image 0 -> ok 0=1")
}

// open is a script by which each of n units is linked to each other one, and they know each other.
func open(n int) []string {
	var list []string
	for a := range n {
		for b := range a {
			x, y := strconv.Itoa(a), strconv.Itoa(b)
			list = append(list, "link "+x+" "+y, "serve "+x+" "+y, "serve "+y+" "+x)
		}
	}
	return list
}

func TestWhatWorksTell(t *testing.T) {
	rows := append(open(4), "begin 0", "begin 0", "begin 2", "works 0 -> ok a1.65537/active/ a1.65538/active/", "works 2 -> ok c3.65537/active/",
		"attach 0 1 3", "attach 0 1 1", "attach 2 2 0", "works 0 -> ok a1.65537/active/ a1.65538/active/31", "serve 0 3", "serve 0 1", "serve 2 0",
		"works 0 -> ok a1.65537/active/ a1.65538/active/31 c3.65537/active/", "works 1 -> ok a1.65538/active/", "put 1 1 1 1", "put 3 1 1 1",
		"sync 0 1", "serve 0 3", "serve 0 1", "works 0 -> ok a1.65537/active/ a1.65538/pending/31 c3.65537/active/",
		"serve 3 0", "serve 1 0", "works 0 -> ok a1.65537/active/ a1.65538/committed/31 c3.65537/active/",
		"serve 0 3", "serve 3 0", "works 0 -> ok a1.65537/active/ a1.65538/committed/1 c3.65537/active/",
		"hand 1 1 backout", "works 1 -> ok a1.65538/heurbackout/", "serve 0 1", "works 1 -> ok a1.65538/backed/", "image 1", "image 3 -> ok 1=1",
		"log -> ok 0/1/a1.65538 3/1/a1.65538 1/3/a1.65538 1/4/a1.65538", "serve 1 0", "works 0 -> ok a1.65537/active/ c3.65537/active/",
		"log -> ok 0/1/a1.65538 3/1/a1.65538 1/3/a1.65538 1/4/a1.65538 0/4/a1.65538 0/5/a1.65538")
	plays(t, 4, rows...)
	behind(t, "serve 0 1", "hand 1 0 commit", "works 1 -> ok a1.65537/heurcommit/")
}

// An event that is no work's has nothing behind its last slash, whatever stands behind it.
func TestWhatLogTells(t *testing.T) {
	behind(t, "serve 0 1", "crash 1 0", "cold 1", "link 0 1", "serve 1 0", "serve 0 1", "log -> ok 0/2/a1.65537 0/6/ 1/6/",
		"begin 1", "backout 1 1", "log -> ok 0/2/a1.65537 0/6/ 1/6/ 1/2/b3.65537", "reset 0 1", "log -> ok 0/2/a1.65537 0/6/ 1/6/ 1/2/b3.65537 0/7/a1.65537 0/5/a1.65537")
}

// Nothing is kept of a line: what is looked at is as it was.
func TestLooksChangeNothing(t *testing.T) {
	var rows []string
	for _, row := range begun {
		rows = append(rows, row)
		for range 2 {
			rows = append(rows, "log")
		}
	}
	plays(t, 2, append(rows, "serve 0 1", "serve 1 0", "log -> ok 0/1/a1.65537", "log -> ok 0/1/a1.65537", "works 1 -> ok a1.65537/doubt/", "works 1 -> ok a1.65537/doubt/")...)
}

// A script's steps are those that a world does: the longest that may be, with what it tells growing all the time.
func TestALongScript(t *testing.T) {
	var rows []string
	log := "ok"
	for i := range api.MaxScript / 4 {
		at, name := strconv.Itoa(i), " 0/1/a1."+strconv.Itoa(65537+i)
		log += name + " 0/5/a1." + strconv.Itoa(65537+i)
		rows = append(rows, "begin 0", "put 0 "+at+" 3 "+at, "sync 0 "+at, "log -> "+log)
	}
	plays(t, 1, rows...)
}
