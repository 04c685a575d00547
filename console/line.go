package console

import (
	"strconv"
	"strings"

	"sexton/api"
	"sexton/watch"
)

// Kinds of events, as watch has them.
const (
	called = watch.Called + iota
	done
	answered
)

// words are what events are called, by their kinds; no kind has the empty one.
var words = [...]string{called: "called", done: "done", answered: "answered"}

const (
	blank     = " "
	nothing   = "-" // stands for the empty Body
	hexDigits = "0123456789abcdef"
	parts     = 4 // of a line
)

// Line is an event's line.
func Line(e watch.Event) (string, api.Errno) {
	if !within(called, e.Kind, answered) || !within(0, e.Client, api.MaxBig) || !within(1, e.Req, api.MaxBig) {
		return "", api.ErrForm
	}
	l := []string{words[e.Kind], strconv.Itoa(e.Client), strconv.Itoa(e.Req), toHex(e.Body)}
	return strings.Join(l, blank), api.OK
}

// toHex is a text in hex digits.
func toHex(s string) string {
	if s == "" {
		return nothing
	}
	b := make([]byte, 0, 2*len(s))
	for i := range len(s) {
		b = append(b, hexDigits[s[i]>>4], hexDigits[s[i]&15])
	}
	return string(b)
}

// Event is the event that a line says.
func Event(line string) (watch.Event, api.Errno) {
	l := strings.Split(line, blank)
	if len(l) != parts {
		return watch.Event{}, api.ErrForm
	}
	e := watch.Event{Kind: kindOf(l[0]), Client: decimal(l[1]), Req: decimal(l[2]), Body: fromHex(l[3])}
	// An event has one line: a text that is not that of the event that was read is none's.
	if form, no := Line(e); no != api.OK || form != line {
		return watch.Event{}, api.ErrForm
	}
	return e, api.OK
}

// kindOf is the kind of events that a word says; 0, which is none, if there is no such word.
func kindOf(word string) int {
	for kind := called; kind <= answered; kind++ {
		if words[kind] == word {
			return kind
		}
	}
	return 0
}

// decimal is the number that digits say; -1, which no event has, if they say none.
func decimal(s string) int {
	n, err := strconv.Atoi(s)
	if err != nil {
		return -1
	}
	return n
}

// fromHex is the text that hex digits say; what is no digit counts as 0, and a digit without another one says nothing: no event's line has such.
func fromHex(s string) string {
	b := make([]byte, 0, len(s)/2)
	for i := 0; i+1 < len(s); i += 2 {
		b = append(b, digit(s[i])<<4|digit(s[i+1]))
	}
	return string(b)
}

// digit is what a hex digit says.
func digit(c byte) byte { return byte(max(0, strings.IndexByte(hexDigits, c))) }
