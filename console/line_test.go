package console

import (
	"encoding/hex"
	"fmt"
	"math"
	"strings"
	"testing"

	"sexton/api"
	"sexton/watch"
)

// 28.2, 28.4: events as lines.

// says fails, if an event's line is another one, or does not say it.
func says(t *testing.T, e watch.Event, want string) {
	t.Helper()
	if s, no := Line(e); s != want || no != api.OK {
		t.Fatalf("Line(%v): %q, %v, want %q", e, s, no, want)
	}
	if x, no := Event(want); x != e || no != api.OK {
		t.Fatalf("Event(%q): %v, %v, want %v", want, x, no, e)
	}
}

// hasNone fails, if an event has a line.
func hasNone(t *testing.T, e watch.Event) {
	t.Helper()
	if s, no := Line(e); s != "" || no != api.ErrForm {
		t.Fatalf("Line(%v): %q, %v", e, s, no)
	}
}

// saysNone fails, if a line says an event.
func saysNone(t *testing.T, line string) {
	t.Helper()
	if x, no := Event(line); x != (watch.Event{}) || no != api.ErrForm {
		t.Fatalf("Event(%q): %v, %v", line, x, no)
	}
}

func TestLine(t *testing.T) {
	says(t, watch.Event{Kind: watch.Called, Client: 3, Req: 1, Body: "ab"}, "called 3 1 6162")
	says(t, watch.Event{Kind: watch.Done, Client: 0, Req: 4}, "done 0 4 -")
	says(t, watch.Event{Kind: watch.Answered, Client: 31, Req: 1234567890, Body: "\x00\xff\x0a -"}, "answered 31 1234567890 00ff0a202d")
	says(t, watch.Event{Kind: watch.Called, Client: big, Req: big}, "called 1099511627776 1099511627776 -")
}

func TestEventKinds(t *testing.T) {
	words := map[int]string{1: "called", 2: "done", 3: "answered"}
	for _, kind := range []int{math.MinInt, -1, 0, 1, 2, 3, 4, 5, 1<<32 + 1, math.MaxInt} {
		if word, is := words[kind]; is {
			says(t, watch.Event{Kind: kind, Client: 5, Req: 6, Body: "x"}, word+" 5 6 78")
			says(t, watch.Event{Kind: kind, Client: 5, Req: 6}, word+" 5 6 -")
		} else {
			hasNone(t, watch.Event{Kind: kind, Client: 5, Req: 6, Body: "x"})
		}
	}
}

func TestEventNumbers(t *testing.T) {
	for kind, word := range map[int]string{1: "called", 2: "done", 3: "answered"} {
		for _, i := range []int{math.MinInt, -big, -1, big + 1, 1 << 50, math.MaxInt} {
			hasNone(t, watch.Event{Kind: kind, Client: i, Req: 1})
			hasNone(t, watch.Event{Kind: kind, Client: 1, Req: i})
			saysNone(t, fmt.Sprint(word, " ", i, " ", 1, " -"))
			saysNone(t, fmt.Sprint(word, " ", 1, " ", i, " -"))
		}
		hasNone(t, watch.Event{Kind: kind, Client: 1, Req: 0})
		saysNone(t, word+" 1 0 -")
		for _, i := range []int{0, 1, 9, 10, 99, 100, 1 << 31, 1 << 32, big - 1, big} {
			says(t, watch.Event{Kind: kind, Client: i, Req: 1}, fmt.Sprint(word, " ", i, " 1 -"))
			if i > 0 {
				says(t, watch.Event{Kind: kind, Client: 1, Req: i}, fmt.Sprint(word, " 1 ", i, " -"))
			}
		}
	}
}

func TestBodies(t *testing.T) {
	for c := range 256 {
		s := string([]byte{byte(c)})
		says(t, watch.Event{Kind: 2, Req: 1, Body: s}, fmt.Sprintf("done 0 1 %02x", c))
		says(t, watch.Event{Kind: 2, Req: 1, Body: "a" + s + "b"}, fmt.Sprintf("done 0 1 61%02x62", c))
	}
	for _, n := range []int{1, 2, 4095, 4096, 4097, 65536, 1 << 20} {
		says(t, watch.Event{Kind: 3, Client: 9, Req: 1, Body: strings.Repeat("k", n)}, "answered 9 1 "+strings.Repeat("6b", n))
	}
	// A body that looks like the sign of none.
	says(t, watch.Event{Kind: 3, Client: 9, Req: 1, Body: "-"}, "answered 9 1 2d")
}

func TestLinesThatAreNone(t *testing.T) {
	for _, line := range []string{
		"", " ", "   ", "broken", "broken\n", "broken - - -", "\n",
		// Fewer parts, and more.
		"called", "called 3", "called 3 1", "called 3 1 ", " 3 1 -", "called  1 -", "called 3  -", "called 3 1 - ", "called 3 1 - -", "called 3 1 61 62",
		// More blanks, and other ones.
		" called 3 1 6162", "called  3 1 6162", "called 3  1 6162", "called 3 1  6162", "called 3 1 6162 ", "called\t3 1 6162", "called 3\t1 6162", "called 3 1\t6162", "called 3 1 6162\n", "called 3 1 6162\r", "\ncalled 3 1 6162", "called\u00a03 1 6162",
		// Other words.
		"Called 3 1 6162", "CALLED 3 1 6162", "call 3 1 6162", "calledd 3 1 6162", "1 3 1 6162", "dont 3 1 6162", "answered: 3 1 6162", "- 3 1 6162",
		// Numbers that open with 0 or a sign, and what is no number.
		"called 03 1 6162", "called 00 1 6162", "called +3 1 6162", "called -3 1 6162", "called -0 1 6162", "called +0 1 6162", "called 3 01 6162", "called 3 +1 6162", "called 3 -1 6162", "called 3 0 6162", "called 3 00 6162",
		"called 0x3 1 6162", "called 3_0 1 6162", "called 3. 1 6162", "called 3e1 1 6162", "called a 1 6162", "called 3 b 6162", "called - 1 6162", "called 3 - 6162", "called \u0663 1 6162",
		"called 1099511627777 1 6162", "called 3 1099511627777 6162", "called 18446744073709551616 1 6162", "called 3 99999999999999999999999999999999 6162", "called 9223372036854775808 1 6162", "called 18446744073709551619 1 6162",
		// Great letters, an odd count of digits, what is no digit.
		"called 3 1 6A", "called 3 1 6G", "called 3 1 AB", "called 3 1 6", "called 3 1 616", "called 3 1 6162a", "called 3 1 g0", "called 3 1 0g", "called 3 1 6-", "called 3 1 -6", "called 3 1 --", "called 3 1 0x61", "called 3 1 61-", "called 3 1 6162\x00", "called 3 1 \x00\x00", "called 3 1 \u0661",
	} {
		saysNone(t, line)
	}
}

// Whatever event there is: it has one line, which says it, or none.
func TestLinesThereAndBack(t *testing.T) {
	p := chance(7)
	good, bad, read := 0, 0, 0
	words := []string{"called", "done", "answered"}
	for range 20000 {
		e := watch.Event{Kind: p.below(6) - 1, Client: []int{-1, 0, 3, p.below(1 << 30), big, big + 1}[p.below(6)], Req: []int{-1, 0, 1, p.below(1 << 30), big, big + 1}[p.below(6)]}
		b := make([]byte, p.below(2)*p.below(40))
		for i := range b {
			b[i] = byte(p.below(256))
		}
		e.Body = string(b)
		if e.Kind < 1 || e.Kind > 3 || e.Client < 0 || e.Client > 1<<40 || e.Req < 1 || e.Req > 1<<40 {
			hasNone(t, e)
			bad++
			continue
		}
		good++
		body := hex.EncodeToString(b)
		if body == "" {
			body = "-"
		}
		line := fmt.Sprintf("%s %d %d %s", words[e.Kind-1], e.Client, e.Req, body)
		says(t, e, line)
		// A line of which a byte is another one says nothing, or what that line says.
		l := []byte(line)
		l[p.below(len(l))] = []byte("0123456789abcdefABC -+gned\n")[p.below(27)]
		if x, no := Event(string(l)); no == api.OK {
			says(t, x, string(l))
			read++
		} else {
			saysNone(t, string(l))
		}
	}
	if good < 2000 || bad < 2000 || read < 500 {
		t.Errorf("%d good, %d bad, %d read", good, bad, read)
	}
}
