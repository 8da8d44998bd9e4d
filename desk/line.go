package desk

import (
	"strconv"
	"strings"

	"troth/api"
	"troth/lunet"
)

// Kinds of what is done to the resources.
const (
	gets = iota
	puts
	dels
	pushes
	pops
)

const (
	mostWords  = 5         // of a line
	mostDigits = 19        // of a number
	mostNumber = 1<<62 - 1 // that a line says
)

// letters are the words of a form that stand for numbers.
const letters = "ABWNKV"

// numbers is a step's numbers, in the order of letters. One below 0 is above mostNumber here.
type numbers [len(letters)]uint64

// form is how a step is said: its line, and what of it is no number.
type form struct {
	line         string
	kind, change int
	commit       bool
}

var forms = [...]form{
	{"link A B", lunet.Link, 0, false},
	{"cut A B", lunet.Cut, 0, false},
	{"serve A B", lunet.Serve, 0, false},
	{"reset A B", lunet.Reset, 0, false},
	{"begin A", lunet.Begin, 0, false},
	{"tick A", lunet.Tick, 0, false},
	{"restart A", lunet.Restart, 0, false},
	{"cold A", lunet.Cold, 0, false},
	{"attach A W B", lunet.Attach, 0, false},
	{"sync A W", lunet.Sync, 0, false},
	{"backout A W", lunet.Backout, 0, false},
	{"hand A W commit", lunet.ByHand, 0, true},
	{"hand A W backout", lunet.ByHand, 0, false},
	{"get A W K", lunet.Change, gets, false},
	{"put A W K V", lunet.Change, puts, false},
	{"del A W K", lunet.Change, dels, false},
	{"push A W V", lunet.Change, pushes, false},
	{"pop A W", lunet.Change, pops, false},
	{"crash A N", lunet.Crash, 0, false},
}

// Parse reads a step's line.
func Parse(line string) (lunet.Step, api.Errno) {
	said := strings.SplitN(line, " ", mostWords+1)
next:
	for _, f := range forms {
		words := strings.Split(f.line, " ")
		if len(said) != len(words) {
			continue
		}
		var n numbers
		for i, word := range words {
			at := strings.Index(letters, word)
			v, isNumber := number(said[i])
			switch {
			case at < 0 && said[i] == word: // it is said as it must be
			case at >= 0 && isNumber:
				n[at] = v
			default:
				continue next
			}
		}
		return f.step(n), api.OK
	}
	return lunet.Step{}, api.ErrLine
}

// number is the number that a word says, if it says one.
func number(word string) (uint64, bool) {
	noughtAhead := len(word) > 1 && word[0] == '0'
	if word == "" || len(word) > mostDigits || noughtAhead {
		return 0, false
	}
	var n uint64
	for i := range len(word) {
		if word[i] < '0' || word[i] > '9' {
			return 0, false
		}
		n = n*10 + uint64(word[i]-'0')
	}
	if n > mostNumber {
		return 0, false
	}
	return n, true
}

// step is the step that a form says with these numbers.
func (f form) step(n numbers) lunet.Step {
	return lunet.Step{
		Kind: f.kind, A: int(n[0]), B: int(n[1]), W: int(n[2]), N: int(n[3]),
		C: api.Change{Kind: f.change, Key: int(n[4]), Val: n[5]}, Commit: f.commit,
	}
}

// numbersOf is the numbers of a step, whether they play a part in it or not.
func numbersOf(s lunet.Step) numbers {
	return numbers{uint64(s.A), uint64(s.B), uint64(s.W), uint64(s.N), uint64(s.C.Key), s.C.Val}
}

// Line is a step's line.
func Line(s lunet.Step) (string, api.Errno) {
	for _, f := range forms {
		if f.says(s) {
			return f.fill(numbersOf(s))
		}
	}
	return "", api.ErrArg
}

// says tells whether a form is a step's, whatever its numbers are.
func (f form) says(s lunet.Step) bool {
	switch {
	case f.kind != s.Kind:
		return false
	case s.Kind == lunet.Change:
		return f.change == s.C.Kind
	case s.Kind == lunet.ByHand:
		return f.commit == s.Commit
	}
	return true
}

// fill is a form's line with numbers in the places of its letters.
func (f form) fill(n numbers) (string, api.Errno) {
	words := strings.Split(f.line, " ")
	for i, word := range words {
		at := strings.Index(letters, word)
		if at < 0 {
			continue
		}
		if n[at] > mostNumber {
			return "", api.ErrArg
		}
		words[i] = strconv.FormatUint(n[at], 10)
	}
	return strings.Join(words, " "), api.OK
}
