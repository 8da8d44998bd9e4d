package desk

import (
	"strconv"
	"strings"

	"troth/api"
	"troth/compare"
	"troth/lunet"
	"troth/luw"
	"troth/res"
	"troth/unit"
)

// look is what a line tells that looks alone.
func look(w *lunet.World, line string) (string, api.Errno) {
	if line == "log" {
		return logText(w.Log()), api.OK
	}
	word, rest, _ := strings.Cut(line, " ")
	i, isNumber := number(rest)
	if !isNumber || word != "works" && word != "image" {
		return "", api.ErrLine
	}
	u := w.Unit(int(i))
	switch {
	case u == nil:
		return "", api.ErrDown
	case word == "works":
		return worksText(u.Works()), api.OK
	}
	return imageText(u.Image()), api.OK
}

func worksText(list []unit.Info) string {
	var b strings.Builder
	for _, w := range list {
		b.WriteString(" " + luw.Print(w.Luw) + "/" + compare.Name(w.State) + "/")
		for _, kid := range w.Kids {
			b.WriteString(strconv.Itoa(kid))
		}
	}
	return b.String()
}

func imageText(m res.Image) string {
	var b strings.Builder
	for _, p := range m.Pairs {
		b.WriteString(" " + strconv.Itoa(p.Key) + "=" + strconv.FormatUint(p.Val, 10))
	}
	for _, val := range m.Items {
		b.WriteString(" " + strconv.FormatUint(val, 10))
	}
	return b.String()
}

// logText has nothing behind the last slash of an event that is no work's: a name that may not be has no text.
func logText(list []lunet.Event) string {
	var b strings.Builder
	for _, x := range list {
		b.WriteString(" " + strconv.Itoa(x.Unit) + "/" + strconv.Itoa(x.E.Kind) + "/" + luw.Print(x.E.Luw))
	}
	return b.String()
}
