package post

import (
	"fmt"
	"math"
	"slices"
	"strings"
	"testing"

	"sexton/api"
)

// text is a text of n bytes of which no two neighbours are the same.
func text(n int) string {
	b := make([]byte, n)
	for i := range b {
		b[i] = byte(i*7 + i>>8)
	}
	return string(b)
}

// show is a letter as a line of a test's output may have it: bodies are bytes, and long.
func show(x Letter) string {
	return fmt.Sprintf("{%d %d %d %.40q of %d bytes}", x.Number, x.From, x.To, x.Body, len(x.Body))
}

func newPost(t *testing.T, nodes int) *Post {
	t.Helper()
	p, e := New(nodes)
	if p == nil || e != api.OK {
		t.Fatalf("New(%d): %v, %v", nodes, p, e)
	}
	return p
}

func wantSend(t *testing.T, p *Post, from, to int, body string, want int, wantE api.Errno) {
	t.Helper()
	if n, e := p.Send(from, to, body); n != want || e != wantE {
		t.Errorf("Send(%d, %d, %d bytes): %d, %v, want %d, %v", from, to, len(body), n, e, want, wantE)
	}
}

func wantAgain(t *testing.T, p *Post, number, want int, wantE api.Errno) {
	t.Helper()
	if n, e := p.Again(number); n != want || e != wantE {
		t.Errorf("Again(%d): %d, %v, want %d, %v", number, n, e, want, wantE)
	}
}

func wantTake(t *testing.T, p *Post, number int, want Letter, wantE api.Errno) {
	t.Helper()
	if x, e := p.Take(number); x != want || e != wantE {
		t.Errorf("Take(%d): %s, %v, want %s, %v", number, show(x), e, show(want), wantE)
	}
}

func wantSee(t *testing.T, p *Post, number int, want Letter, wantE api.Errno) {
	t.Helper()
	if x, e := p.See(number); x != want || e != wantE {
		t.Errorf("See(%d): %s, %v, want %s, %v", number, show(x), e, show(want), wantE)
	}
}

func wantLose(t *testing.T, p *Post, number int, want api.Errno) {
	t.Helper()
	if e := p.Lose(number); e != want {
		t.Errorf("Lose(%d): %v, want %v", number, e, want)
	}
}

func wantFlip(t *testing.T, p *Post, number, bit int, want api.Errno) {
	t.Helper()
	if e := p.Flip(number, bit); e != want {
		t.Errorf("Flip(%d, %d): %v, want %v", number, bit, e, want)
	}
}

func wantWaiting(t *testing.T, p *Post, want ...int) {
	t.Helper()
	if l := p.Waiting(); !slices.Equal(l, want) {
		t.Errorf("Waiting: %v, want %v", l, want)
	}
}

// wantNone asks every call that names a letter for one that does not wait.
func wantNone(t *testing.T, p *Post, number int) {
	t.Helper()
	wantTake(t, p, number, Letter{}, api.ErrNone)
	wantSee(t, p, number, Letter{}, api.ErrNone)
	wantLose(t, p, number, api.ErrNone)
	wantAgain(t, p, number, 0, api.ErrNone)
	for _, bit := range []int{-1, 0, 8, math.MaxInt} {
		wantFlip(t, p, number, bit, api.ErrNone)
	}
}

// full is a post of 2 nodes in which the letters 1 to n wait.
func full(t *testing.T, n int) *Post {
	t.Helper()
	p := newPost(t, 2)
	for i := range n {
		wantSend(t, p, 0, 1, "x", i+1, api.OK)
	}
	return p
}

// 4.1

func TestNewNodes(t *testing.T) {
	for _, nodes := range []int{1, 2, 31, 32} {
		p := newPost(t, nodes)
		wantWaiting(t, p)
		wantNone(t, p, 1)
	}
	for _, nodes := range []int{0, 33, -1, 64, 1 << 32, 1<<32 + 1, math.MinInt, math.MaxInt} {
		if p, e := New(nodes); p != nil || e != api.ErrArg {
			t.Errorf("New(%d): %v, %v", nodes, p, e)
		}
	}
}

func TestSendFromAndTo(t *testing.T) {
	for _, nodes := range []int{1, 2, 32} {
		p := newPost(t, nodes)
		wantSend(t, p, 0, 0, "a", 1, api.OK)
		wantSend(t, p, nodes-1, 0, "b", 2, api.OK)
		wantSend(t, p, 0, nodes-1, "c", 3, api.OK)
		for _, x := range []int{-1, nodes, nodes + 1, 33, math.MinInt, math.MaxInt} {
			wantSend(t, p, x, 0, "d", 0, api.ErrArg)
			wantSend(t, p, 0, x, "d", 0, api.ErrArg)
			wantSend(t, p, x, x, "d", 0, api.ErrArg)
		}
		wantWaiting(t, p, 1, 2, 3)
		wantSee(t, p, 2, Letter{2, nodes - 1, 0, "b"}, api.OK)
		wantSee(t, p, 3, Letter{3, 0, nodes - 1, "c"}, api.OK)
		wantSend(t, p, 0, 0, "e", 4, api.OK)
	}
}

func TestSendBodies(t *testing.T) {
	p := newPost(t, 3)
	for i, body := range []string{"", "\x00", "\xff\xfe", text(65534), text(65535)} {
		wantSend(t, p, 2, 1, body, i+1, api.OK)
		wantSee(t, p, i+1, Letter{i + 1, 2, 1, body}, api.OK)
	}
	for _, n := range []int{65536, 65537, 131072} {
		wantSend(t, p, 2, 1, text(n), 0, api.ErrLong)
	}
	wantWaiting(t, p, 1, 2, 3, 4, 5)
	wantSend(t, p, 2, 1, "", 6, api.OK)
}

func TestSendFull(t *testing.T) {
	p := full(t, MaxLetters-1)
	wantSend(t, p, 0, 1, "y", 2048, api.OK)
	wantSend(t, p, 0, 1, "z", 0, api.ErrFull)
	wantSend(t, p, 0, 1, "", 0, api.ErrFull)
	if n := len(p.Waiting()); n != 2048 {
		t.Errorf("%d wait", n)
	}
	wantTake(t, p, 7, Letter{7, 0, 1, "x"}, api.OK)
	wantSend(t, p, 1, 0, "z", 2049, api.OK)
	wantSend(t, p, 0, 1, "z", 0, api.ErrFull)
	wantLose(t, p, 8, api.OK)
	wantSend(t, p, 1, 1, "z", 2050, api.OK)
}

func TestSendTellsTheFirstFault(t *testing.T) {
	p, long := full(t, MaxLetters), text(65536)
	wantSend(t, p, -1, 0, long, 0, api.ErrArg)
	wantSend(t, p, 0, 2, long, 0, api.ErrArg)
	wantSend(t, p, 2, 0, "", 0, api.ErrArg)
	wantSend(t, p, 0, -1, "", 0, api.ErrArg)
	wantSend(t, p, 0, 1, long, 0, api.ErrLong)
	wantSend(t, p, 0, 1, long[1:], 0, api.ErrFull)
}

func TestNumbersAreNeverUsedAgain(t *testing.T) {
	p := newPost(t, 1)
	for i := 1; i < 6000; i++ {
		wantSend(t, p, 0, 0, "a", i, api.OK)
		if i%2 == 0 {
			wantLose(t, p, i, api.OK)
		} else {
			wantTake(t, p, i, Letter{i, 0, 0, "a"}, api.OK)
		}
		wantWaiting(t, p)
	}
}

// 4.2

func TestExample(t *testing.T) {
	p := newPost(t, 2)
	wantSend(t, p, 0, 1, "a", 1, api.OK)
	wantAgain(t, p, 1, 2, api.OK)
	wantTake(t, p, 1, Letter{1, 0, 1, "a"}, api.OK)
	wantWaiting(t, p, 2)
}

func TestNoLetterOfThatNumber(t *testing.T) {
	p := full(t, 5)
	wantTake(t, p, 2, Letter{2, 0, 1, "x"}, api.OK)
	wantLose(t, p, 4, api.OK)
	for _, number := range []int{0, 2, 4, 6, 7, -1, math.MinInt, math.MaxInt} {
		wantNone(t, p, number)
	}
	wantWaiting(t, p, 1, 3, 5)
	wantSend(t, p, 0, 1, "y", 6, api.OK)
}

func TestTakeInAnyOrder(t *testing.T) {
	p := newPost(t, 4)
	for i := range 4 {
		wantSend(t, p, i, 3-i, text(i), i+1, api.OK)
	}
	wantTake(t, p, 3, Letter{3, 2, 1, text(2)}, api.OK)
	wantWaiting(t, p, 1, 2, 4)
	wantTake(t, p, 1, Letter{1, 0, 3, ""}, api.OK)
	wantWaiting(t, p, 2, 4)
	wantTake(t, p, 4, Letter{4, 3, 0, text(3)}, api.OK)
	wantTake(t, p, 2, Letter{2, 1, 2, text(1)}, api.OK)
	wantWaiting(t, p)
}

func TestLose(t *testing.T) {
	p := full(t, 3)
	wantLose(t, p, 2, api.OK)
	wantNone(t, p, 2)
	wantWaiting(t, p, 1, 3)
	wantLose(t, p, 3, api.OK)
	wantLose(t, p, 1, api.OK)
	wantWaiting(t, p)
}

func TestSeeTakesNothing(t *testing.T) {
	p := newPost(t, 2)
	wantSend(t, p, 1, 0, "ab", 1, api.OK)
	wantSee(t, p, 1, Letter{1, 1, 0, "ab"}, api.OK)
	wantSee(t, p, 1, Letter{1, 1, 0, "ab"}, api.OK)
	wantWaiting(t, p, 1)
}

func TestAgain(t *testing.T) {
	p := newPost(t, 3)
	wantSend(t, p, 2, 1, "ab", 1, api.OK)
	wantSend(t, p, 0, 0, "cd", 2, api.OK)
	wantAgain(t, p, 1, 3, api.OK)
	wantAgain(t, p, 3, 4, api.OK)
	wantAgain(t, p, 1, 5, api.OK)
	for _, number := range []int{3, 4, 5} {
		wantSee(t, p, number, Letter{number, 2, 1, "ab"}, api.OK)
	}
	wantLose(t, p, 1, api.OK)
	wantAgain(t, p, 1, 0, api.ErrNone)
	wantAgain(t, p, 5, 6, api.OK)
	wantSend(t, p, 0, 0, "", 7, api.OK)
	wantWaiting(t, p, 2, 3, 4, 5, 6, 7)
}

func TestAgainFull(t *testing.T) {
	p := full(t, MaxLetters-1)
	wantAgain(t, p, 1, 2048, api.OK)
	wantAgain(t, p, 1, 0, api.ErrFull)
	wantAgain(t, p, 2048, 0, api.ErrFull)
	wantAgain(t, p, 2049, 0, api.ErrNone)
	wantAgain(t, p, 0, 0, api.ErrNone)
	wantLose(t, p, 1, api.OK)
	wantAgain(t, p, 1, 0, api.ErrNone)
	wantAgain(t, p, 2, 2049, api.OK)
	wantAgain(t, p, 2, 0, api.ErrFull)
}

func TestFlipEachBit(t *testing.T) {
	const body = "\x00\xff\x5a"
	p := newPost(t, 1)
	wantSend(t, p, 0, 0, body, 1, api.OK)
	for bit := range 24 {
		want := []byte(body)
		want[bit/8] ^= []byte{1, 2, 4, 8, 16, 32, 64, 128}[bit%8]
		wantFlip(t, p, 1, bit, api.OK)
		wantSee(t, p, 1, Letter{1, 0, 0, string(want)}, api.OK)
		wantFlip(t, p, 1, bit, api.OK)
		wantSee(t, p, 1, Letter{1, 0, 0, body}, api.OK)
	}
	wantFlip(t, p, 1, 0, api.OK)
	wantFlip(t, p, 1, 23, api.OK)
	wantTake(t, p, 1, Letter{1, 0, 0, "\x01\xff\xda"}, api.OK)
}

func TestFlipBitsThatAreNot(t *testing.T) {
	p := newPost(t, 1)
	for i, n := range []int{0, 1, 2, 65535} {
		body := text(n)
		wantSend(t, p, 0, 0, body, i+1, api.OK)
		for _, bit := range []int{-1, -8, 8 * n, 8*n + 1, math.MinInt, math.MaxInt} {
			wantFlip(t, p, i+1, bit, api.ErrArg)
		}
		wantSee(t, p, i+1, Letter{i + 1, 0, 0, body}, api.OK)
		if n > 0 {
			wantFlip(t, p, i+1, 8*n-1, api.OK)
			wantSee(t, p, i+1, Letter{i + 1, 0, 0, body[:n-1] + string([]byte{body[n-1] ^ 128})}, api.OK)
		}
	}
}

func TestFlipTouchesOneLetter(t *testing.T) {
	p, sent := newPost(t, 1), strings.Clone("ab")
	wantSend(t, p, 0, 0, sent, 1, api.OK)
	wantAgain(t, p, 1, 2, api.OK)
	wantSend(t, p, 0, 0, sent, 3, api.OK)
	seen, _ := p.See(2)
	wantFlip(t, p, 2, 1, api.OK)
	wantSee(t, p, 1, Letter{1, 0, 0, "ab"}, api.OK)
	wantSee(t, p, 2, Letter{2, 0, 0, "cb"}, api.OK)
	wantSee(t, p, 3, Letter{3, 0, 0, "ab"}, api.OK)
	if sent != "ab" || seen.Body != "ab" {
		t.Errorf("what was sent became %q, what was seen %q", sent, seen.Body)
	}
	wantAgain(t, p, 2, 4, api.OK)
	wantTake(t, p, 4, Letter{4, 0, 0, "cb"}, api.OK)
}

func TestWaitingIsNewMemory(t *testing.T) {
	p := full(t, 3)
	a, b := p.Waiting(), p.Waiting()
	for i := range a[:cap(a)] {
		a[:cap(a)][i] = -7
	}
	if !slices.Equal(b, []int{1, 2, 3}) {
		t.Errorf("the second answer became %v", b)
	}
	wantWaiting(t, p, 1, 2, 3)
}

func TestPostsAreApart(t *testing.T) {
	p, q := newPost(t, 2), newPost(t, 2)
	wantSend(t, p, 0, 1, "a", 1, api.OK)
	wantWaiting(t, q)
	wantSend(t, q, 1, 0, "b", 1, api.OK)
	wantSee(t, p, 1, Letter{1, 0, 1, "a"}, api.OK)
}

func TestNilPost(t *testing.T) {
	for _, p := range []*Post{nil, {}} { // and one that New did not make: it has no node
		wantSend(t, p, 0, 0, "a", 0, api.ErrArg)
		wantSend(t, p, -1, 7, "a", 0, api.ErrArg)
		wantSend(t, p, 0, 0, text(65536), 0, api.ErrArg)
		wantWaiting(t, p)
		for _, number := range []int{0, 1, -1, math.MinInt, math.MaxInt} {
			wantNone(t, p, number)
		}
	}
}

// 4.3

// A post is held against a plain map of letters through many steps: what is taken was sent, but for the bits that were flipped.
func TestAgainstAMap(t *testing.T) {
	p, model, last, x := newPost(t, 5), map[int]Letter{}, 0, 1
	roll := func(n int) int {
		x = x * 48271 % (1<<31 - 1)
		return x % n
	}
	for range 8000 {
		number := roll(last + 2)
		old, there := model[number]
		none := api.OK
		if !there {
			none = api.ErrNone
		}
		switch roll(7) {
		case 0, 1:
			last++
			model[last] = Letter{last, roll(5), roll(5), text(roll(20))}
			wantSend(t, p, model[last].From, model[last].To, model[last].Body, last, api.OK)
		case 2:
			wantTake(t, p, number, old, none)
			delete(model, number)
		case 3:
			wantLose(t, p, number, none)
			delete(model, number)
		case 4:
			if !there {
				wantAgain(t, p, number, 0, none)
				break
			}
			last++
			wantAgain(t, p, number, last, api.OK)
			old.Number = last
			model[last] = old
		case 5:
			if there && old.Body != "" {
				bit := roll(8 * len(old.Body))
				body := []byte(old.Body)
				body[bit/8] ^= 1 << (bit % 8)
				wantFlip(t, p, number, bit, api.OK)
				old.Body = string(body)
				model[number] = old
			}
		case 6:
			wantSee(t, p, number, old, none)
		}
		var want []int
		for number := range model {
			want = append(want, number)
		}
		slices.Sort(want)
		wantWaiting(t, p, want...)
	}
	for _, number := range p.Waiting() {
		wantTake(t, p, number, model[number], api.OK)
		wantTake(t, p, number, Letter{}, api.ErrNone)
	}
	wantWaiting(t, p)
}
