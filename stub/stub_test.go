package stub

import (
	"math"
	"reflect"
	"strings"
	"testing"

	"sexton/answer"
	"sexton/api"
	"sexton/ask"
	"sexton/memo"
)

// made is a stub of that number.
func made(t *testing.T, id, n int) *Stub {
	t.Helper()
	s, e := New(id, n)
	if e != api.OK || s == nil {
		t.Fatalf("New(%d, %d): %v, %v", id, n, s, e)
	}
	return s
}

// root is the folder in which all calls of these tests are.
func root() api.Handle { return api.Handle{No: 0, Gen: 1} }

// makes is a call that makes a file.
func makes(name string) api.Call { return api.Call{Kind: api.CallMake, H: root(), Name: name} }

// body are a right call's bytes.
func body(c api.Call) string {
	s, e := ask.Pack(c)
	if e != api.OK {
		panic(e)
	}
	return s
}

// bytes are a right memo's bytes.
func bytes(m memo.Memo) string {
	s, e := memo.Pack(m)
	if e != api.OK {
		panic(e)
	}
	return s
}

// replied are a right reply's bytes.
func replied(r api.Reply) string {
	s, e := answer.Pack(r)
	if e != api.OK {
		panic(e)
	}
	return s
}

// told is a letter that answers a request.
func told(client, op int, r api.Reply) string {
	return bytes(memo.Memo{Kind: memo.Told, Client: client, Op: op, Data: replied(r)})
}

// guide is a letter that says who leads.
func guide(client, view int) string {
	return bytes(memo.Memo{Kind: memo.Told, Client: client, View: view})
}

// sent fails, if what was sent is not the call, to that replica.
func sent(t *testing.T, out []Out, to, client, req int, c api.Call) {
	t.Helper()
	want := []Out{{To: to, Text: bytes(memo.Memo{Kind: memo.Request, Client: client, Op: req, Data: body(c)})}}
	if !reflect.DeepEqual(out, want) {
		t.Errorf("sent %v, want %v", out, want)
	}
}

// calls fails, if a call is not taken, or is not sent to that replica.
func calls(t *testing.T, s *Stub, c api.Call, to, client, req int) {
	t.Helper()
	out, e := s.Call(c)
	if e != api.OK {
		t.Errorf("Call: %v", e)
	}
	sent(t, out, to, client, req, c)
}

// refuses fails, if a call is taken, or refused by another error, or changes anything.
func refuses(t *testing.T, s *Stub, c api.Call, want api.Errno) {
	t.Helper()
	var old Stub
	if s != nil {
		old = *s
	}
	if out, e := s.Call(c); len(out) != 0 || e != want {
		t.Errorf("Call: %v, %v, want %v", out, e, want)
	}
	if s != nil && *s != old {
		t.Errorf("Call changed %v to %v", old, *s)
	}
}

// stands fails, if another request is under way (0: none is), or the target is another one.
func stands(t *testing.T, s *Stub, under, target int) {
	t.Helper()
	if n, is := s.Under(); n != under || is != (under != 0) {
		t.Errorf("Under: %d, %v, want %d", n, is, under)
	}
	if n := s.Target(); n != target {
		t.Errorf("Target: %d, want %d", n, target)
	}
}

// hears fails, if a letter is told to be the answer, though it is not, or the other way round.
func hears(t *testing.T, s *Stub, from int, text string, want bool) {
	t.Helper()
	if is := s.Letter(from, text); is != want {
		t.Errorf("Letter(%d, %q): %v", from, text, is)
	}
}

// ignores fails, if a letter does anything.
func ignores(t *testing.T, s *Stub, from int, text string) {
	t.Helper()
	var old Stub
	if s != nil {
		old = *s
	}
	hears(t, s, from, text, false)
	if s != nil && *s != old {
		t.Errorf("Letter(%d, %q) changed %v to %v", from, text, old, *s)
	}
}

// answers fails, if the first answer that waits is another one.
func answers(t *testing.T, s *Stub, req int, r api.Reply) {
	t.Helper()
	want := Reply{Req: req, Reply: r}
	if got, is := s.Answer(); !is || !reflect.DeepEqual(got, want) {
		t.Errorf("Answer: %v, %v, want %v", got, is, want)
	}
}

// answersNothing fails, if an answer waits.
func answersNothing(t *testing.T, s *Stub) {
	t.Helper()
	if got, is := s.Answer(); is || !reflect.DeepEqual(got, Reply{}) {
		t.Errorf("Answer: %v, %v, want none", got, is)
	}
}

// silent fails, if a tick sends anything, or changes anything.
func silent(t *testing.T, s *Stub) {
	t.Helper()
	target := s.Target()
	if out := s.Tick(); len(out) != 0 {
		t.Errorf("Tick: %v", out)
	}
	if s.Target() != target {
		t.Errorf("Tick: target %d, was %d", s.Target(), target)
	}
}

// asked has a stub ask and be answered that many times, from its request first on.
func asked(t *testing.T, s *Stub, first, times int) {
	t.Helper()
	for i := range times {
		calls(t, s, makes("a"), s.Target(), s.id, first+i)
		hears(t, s, 0, told(s.id, first+i, api.Reply{N: first + i}), true)
	}
}

// 25.1

func TestNew(t *testing.T) {
	right := map[int]bool{1: true, 3: true, 5: true, 7: true}
	for n := -1; n <= 9; n++ {
		for _, id := range []int{math.MinInt, -1, 0, n - 1, n, n + 1, 30, 31, 32, 33, math.MaxInt} {
			s, e := New(id, n)
			if !right[n] || id < n || id > 31 {
				if s != nil || e != api.ErrArg {
					t.Errorf("New(%d, %d): %v, %v", id, n, s, e)
				}
				continue
			}
			if s == nil || e != api.OK {
				t.Errorf("New(%d, %d): %v, %v", id, n, s, e)
			}
			stands(t, s, 0, 0)
			silent(t, s)
			answersNothing(t, s)
			calls(t, s, makes("a"), 0, id, 1)
		}
	}
	for _, n := range []int{math.MinInt, -3, 11, 1 << 32, 1<<32 + 3, math.MaxInt} {
		if s, e := New(12, n); s != nil || e != api.ErrArg {
			t.Errorf("New(12, %d): %v, %v", n, s, e)
		}
	}
}

func TestCall(t *testing.T) {
	most := api.Call{
		Kind: api.CallClose, H: api.Handle{No: 255, Gen: api.MaxBig}, H2: api.Handle{No: 255, Gen: api.MaxBig},
		Name: strings.Repeat("a", 255), Name2: strings.Repeat("b", 255), At: 1<<32 - 1, N: 65535, Data: strings.Repeat("c", 1024),
	}
	for _, c := range []api.Call{makes("a"), {Kind: api.CallLook}, {Kind: api.CallClose, N: 3}, most} {
		s := made(t, 31, 7)
		calls(t, s, c, 0, 31, 1)
		stands(t, s, 1, 0)
		sent(t, s.Tick(), 1, 31, 1, c)
	}
}

func TestWrongCall(t *testing.T) {
	for _, c := range []api.Call{
		{}, {Kind: -1}, {Kind: api.CallClose + 1}, {Kind: api.CallLook, At: -1}, {Kind: api.CallLook, N: 65536},
		{Kind: api.CallMake, Name: strings.Repeat("a", 256)}, {Kind: api.CallWrite, Data: strings.Repeat("a", 1025)},
		{Kind: api.CallLook, H: api.Handle{No: 256}}, {Kind: api.CallLook, H2: api.Handle{Gen: api.MaxBig + 1}},
	} {
		s := made(t, 3, 3)
		refuses(t, s, c, api.BadCall)
		stands(t, s, 0, 0)
		silent(t, s)
		// It took no number.
		calls(t, s, makes("a"), 0, 3, 1)
		refuses(t, s, c, api.BadCall)
		refuses(t, nil, c, api.BadCall)
		refuses(t, &Stub{}, c, api.BadCall)
	}
}

func TestCallWhileOneIsUnderWay(t *testing.T) {
	s := made(t, 3, 3)
	calls(t, s, makes("a"), 0, 3, 1)
	refuses(t, s, makes("b"), api.ErrState)
	refuses(t, s, makes("a"), api.ErrState)
	stands(t, s, 1, 0)
	sent(t, s.Tick(), 1, 3, 1, makes("a"))
	refuses(t, s, makes("b"), api.ErrState)
	hears(t, s, 1, told(3, 1, api.Reply{}), true)
	stands(t, s, 0, 1)
	calls(t, s, makes("b"), 1, 3, 2)
	stands(t, s, 2, 1)
}

func TestAnswersThatWait(t *testing.T) {
	s := made(t, 5, 5)
	asked(t, s, 1, 63)
	calls(t, s, makes("b"), 0, 5, 64)
	// With one more under way it is that of which is told.
	refuses(t, s, makes("b"), api.ErrState)
	hears(t, s, 4, told(5, 64, api.Reply{N: 64}), true)
	refuses(t, s, makes("b"), api.ErrFull)
	refuses(t, s, api.Call{}, api.BadCall)
	stands(t, s, 0, 0)
	silent(t, s)
	answers(t, s, 1, api.Reply{N: 1})
	// What was refused took no number.
	calls(t, s, makes("c"), 0, 5, 65)
	hears(t, s, 0, told(5, 65, api.Reply{N: 65}), true)
	refuses(t, s, makes("d"), api.ErrFull)
	for i := 2; i <= 65; i++ {
		answers(t, s, i, api.Reply{N: i})
	}
	answersNothing(t, s)
	calls(t, s, makes("d"), 0, 5, 66)
}

func TestLastRequest(t *testing.T) {
	s := made(t, 3, 3)
	s.req = api.MaxBig - 1
	asked(t, s, api.MaxBig, 1)
	refuses(t, s, makes("b"), api.ErrFull)
	refuses(t, s, api.Call{}, api.BadCall)
	stands(t, s, 0, 0)
	answers(t, s, api.MaxBig, api.Reply{N: api.MaxBig})
	refuses(t, s, makes("b"), api.ErrFull)
	silent(t, s)
}

// 25.2

func TestSenders(t *testing.T) {
	for _, n := range []int{1, 3, 5, 7} {
		for _, from := range []int{math.MinInt, -1, n, n + 1, 31, 32, 1 << 32, math.MaxInt} {
			s := made(t, n, n)
			calls(t, s, makes("a"), 0, n, 1)
			ignores(t, s, from, told(n, 1, api.Reply{}))
			ignores(t, s, from, guide(n, 1))
			stands(t, s, 1, 0)
		}
		for from := range n {
			s := made(t, n, n)
			calls(t, s, makes("a"), 0, n, 1)
			hears(t, s, from, guide(n, n/2), false)
			stands(t, s, 1, n/2)
			hears(t, s, from, told(n, 1, api.Reply{E: api.Stale}), true)
			stands(t, s, 0, n/2)
			answers(t, s, 1, api.Reply{E: api.Stale})
		}
	}
}

func TestBytesThatAreNoMemo(t *testing.T) {
	right := told(3, 1, api.Reply{E: api.Stale})
	l := []string{"", "x", right + "x", right[1:], right[:len(right)-1], strings.Repeat("\x00", 60001), right + right}
	for i := range len(right) * 8 {
		b := []byte(right)
		b[i/8] ^= 1 << (i % 8)
		l = append(l, string(b))
	}
	s := made(t, 3, 3)
	calls(t, s, makes("a"), 0, 3, 1)
	for _, text := range l {
		ignores(t, s, 0, text)
	}
	hears(t, s, 0, right, true)
}

func TestKindsOfMemos(t *testing.T) {
	for kind := memo.Request; kind <= memo.Piece; kind++ {
		s := made(t, 3, 3)
		calls(t, s, makes("a"), 0, 3, 1)
		where := bytes(memo.Memo{Kind: kind, Client: 3, View: 1})
		reply := bytes(memo.Memo{Kind: kind, Client: 3, Op: 1, Data: replied(api.Reply{N: 4})})
		if kind != memo.Told {
			ignores(t, s, 0, where)
			ignores(t, s, 0, reply)
			continue
		}
		hears(t, s, 0, where, false)
		stands(t, s, 1, 1)
		hears(t, s, 0, reply, true)
		answers(t, s, 1, api.Reply{N: 4})
	}
}

func TestOtherClients(t *testing.T) {
	s := made(t, 4, 3)
	calls(t, s, makes("a"), 0, 4, 1)
	for _, client := range []int{0, 1, 3, 5, 31, 4 + 1<<32, api.MaxBig} {
		ignores(t, s, 0, told(client, 1, api.Reply{}))
		ignores(t, s, 0, guide(client, 1))
	}
	hears(t, s, 0, told(4, 1, api.Reply{}), true)
}

func TestGuided(t *testing.T) {
	// View by view: which is told, and where the stub goes.
	steps := []struct{ view, target int }{
		{0, 0}, {4, 1}, {3, 1}, {0, 1}, {4, 1}, {5, 2}, {4, 2}, {6, 0}, {100, 1}, {99, 1}, {api.MaxBig, api.MaxBig % 3}, {api.MaxBig - 1, api.MaxBig % 3}, {api.MaxBig, api.MaxBig % 3},
	}
	for _, under := range []bool{false, true} {
		s := made(t, 5, 5)
		req := 0
		if under {
			req = 1
			calls(t, s, makes("a"), 0, 5, req)
		}
		for _, x := range steps {
			hears(t, s, 3, guide(5, x.view), false)
			stands(t, s, req, x.target)
		}
		answersNothing(t, s)
	}
}

func TestLateGuideIsNone(t *testing.T) {
	s := made(t, 5, 5)
	hears(t, s, 1, guide(5, 4), false)
	calls(t, s, makes("a"), 1, 5, 1)
	// Of a lesser view: it was not told where to go, and tries the next one.
	ignores(t, s, 1, guide(5, 3))
	sent(t, s.Tick(), 2, 5, 1, makes("a"))
	// Of the same view: back.
	hears(t, s, 2, guide(5, 4), false)
	stands(t, s, 1, 1)
	sent(t, s.Tick(), 1, 5, 1, makes("a"))
	sent(t, s.Tick(), 2, 5, 1, makes("a"))
}

func TestGuideWithOtherFields(t *testing.T) {
	s := made(t, 3, 3)
	calls(t, s, makes("a"), 0, 3, 1)
	hears(t, s, 2, bytes(memo.Memo{Kind: memo.Told, Client: 3, View: 1, Commit: 9, Lives: []int{1, 2, 3}, Data: "no reply"}), false)
	stands(t, s, 1, 1)
}

func TestWhatIsTheAnswer(t *testing.T) {
	s := made(t, 3, 3)
	asked(t, s, 1, 2)
	hears(t, s, 0, guide(3, 2), false)
	calls(t, s, makes("a"), 0, 3, 3)
	for _, op := range []int{1, 2, 4, 5, 3 + 1<<32, api.MaxBig} {
		ignores(t, s, 0, told(3, op, api.Reply{}))
	}
	right := replied(api.Reply{E: api.Stale, N: 7})
	for _, data := range []string{"x", "\x00", right[1:], right[:len(right)-1], right + "x", right + right, strings.Repeat("x", 8192), "\x01\x00\x02\x00\x00"} {
		ignores(t, s, 0, bytes(memo.Memo{Kind: memo.Told, Client: 3, Op: 3, Data: data}))
	}
	stands(t, s, 3, 0)
	// An answer's View tells nothing of where to go.
	hears(t, s, 1, bytes(memo.Memo{Kind: memo.Told, Client: 3, Op: 3, View: 7, Low: 5, Lives: []int{4}, Data: right}), true)
	stands(t, s, 0, 0)
	hears(t, s, 1, guide(3, 3), false)
	stands(t, s, 0, 1)
	answers(t, s, 1, api.Reply{N: 1})
	answers(t, s, 2, api.Reply{N: 2})
	answers(t, s, 3, api.Reply{E: api.Stale, N: 7})
	answersNothing(t, s)
}

func TestAnswersOfAllForms(t *testing.T) {
	var entries []api.Entry
	for i := range 64 {
		entries = append(entries, api.Entry{Name: strings.Repeat("n", 31) + string(rune('0'+i)), Cookie: 1<<32 + i, To: api.Handle{No: i, Gen: api.MaxBig}})
	}
	for _, r := range []api.Reply{
		{}, {E: api.BadCall}, {H: api.Handle{No: 1, Gen: 1}}, {Attr: api.Attr{Kind: api.KindFile, Links: 1, Size: 3, Stamp: 9}},
		{Data: strings.Repeat("d", api.MaxWrite), N: 4}, {Entries: entries}, {N: api.MaxBig},
	} {
		s := made(t, 1, 1)
		calls(t, s, makes("a"), 0, 1, 1)
		hears(t, s, 0, told(1, 1, r), true)
		answers(t, s, 1, r)
	}
}

func TestTheSameAnswerTwice(t *testing.T) {
	s := made(t, 3, 3)
	calls(t, s, makes("a"), 0, 3, 1)
	x := told(3, 1, api.Reply{N: 1})
	hears(t, s, 0, x, true)
	ignores(t, s, 0, x)
	ignores(t, s, 1, told(3, 1, api.Reply{N: 2}))
	answers(t, s, 1, api.Reply{N: 1})
	answersNothing(t, s)
	ignores(t, s, 0, x)
	calls(t, s, makes("b"), 0, 3, 2)
	ignores(t, s, 0, x)
	stands(t, s, 2, 0)
	answersNothing(t, s)
}

func TestAnswerOfWhatWasNotAsked(t *testing.T) {
	s := made(t, 3, 3)
	for _, op := range []int{1, 2, api.MaxBig} {
		ignores(t, s, 0, told(3, op, api.Reply{}))
	}
	answersNothing(t, s)
}

// 25.3

func TestTickGoesRound(t *testing.T) {
	for n, replicas := range map[int]int{1: 1, 3: 2, 5: 3, 7: 4} {
		s := made(t, 9, n)
		silent(t, s)
		calls(t, s, makes("a"), 0, 9, 1)
		for i := 1; i <= 2*replicas+1; i++ {
			sent(t, s.Tick(), i%replicas, 9, 1, makes("a"))
			stands(t, s, 1, i%replicas)
		}
		hears(t, s, 0, told(9, 1, api.Reply{}), true)
		target := s.Target()
		silent(t, s)
		silent(t, s)
		// The next call begins where the last one ended.
		calls(t, s, makes("b"), target, 9, 2)
	}
}

func TestTickBehindHavingBeenToldWhereToGo(t *testing.T) {
	s := made(t, 7, 7)
	calls(t, s, makes("a"), 0, 7, 1)
	hears(t, s, 5, guide(7, 6), false)
	stands(t, s, 1, 2)
	sent(t, s.Tick(), 2, 7, 1, makes("a"))
	// Being told counts once.
	sent(t, s.Tick(), 3, 7, 1, makes("a"))
	sent(t, s.Tick(), 0, 7, 1, makes("a"))
	hears(t, s, 5, guide(7, 6), false)
	hears(t, s, 5, guide(7, 7), false)
	hears(t, s, 5, guide(7, 6), false)
	sent(t, s.Tick(), 3, 7, 1, makes("a"))
}

func TestToldWhereToGoWhileIdle(t *testing.T) {
	s := made(t, 5, 5)
	hears(t, s, 0, guide(5, 1), false)
	silent(t, s)
	calls(t, s, makes("a"), 1, 5, 1)
	// It sent since.
	sent(t, s.Tick(), 2, 5, 1, makes("a"))
}

func TestToldWhereToGoByTheTargetItself(t *testing.T) {
	s := made(t, 3, 3)
	calls(t, s, makes("a"), 0, 3, 1)
	hears(t, s, 0, guide(3, 0), false)
	sent(t, s.Tick(), 0, 3, 1, makes("a"))
	sent(t, s.Tick(), 1, 3, 1, makes("a"))
}

func TestAnswersInTheirOrder(t *testing.T) {
	s := made(t, 3, 3)
	answersNothing(t, s)
	asked(t, s, 1, 1)
	answers(t, s, 1, api.Reply{N: 1})
	answersNothing(t, s)
	asked(t, s, 2, 5)
	for i := 2; i <= 4; i++ {
		answers(t, s, i, api.Reply{N: i})
	}
	asked(t, s, 7, 2)
	// An answer is told while another call is under way.
	calls(t, s, makes("b"), 0, 3, 9)
	for i := 5; i <= 8; i++ {
		answers(t, s, i, api.Reply{N: i})
		stands(t, s, 9, 0)
	}
	answersNothing(t, s)
	sent(t, s.Tick(), 1, 3, 9, makes("b"))
}

func TestNilStub(t *testing.T) {
	for _, s := range []*Stub{nil, {}} {
		refuses(t, s, makes("a"), api.ErrState)
		refuses(t, s, api.Call{}, api.BadCall)
		for _, from := range []int{-1, 0, 1, 31} {
			for _, client := range []int{0, 1, 3} {
				ignores(t, s, from, guide(client, 1))
				ignores(t, s, from, told(client, 1, api.Reply{}))
			}
			ignores(t, s, from, "x")
		}
		silent(t, s)
		answersNothing(t, s)
		stands(t, s, 0, 0)
	}
}

// R3

func TestWhatIsSentIsNewMemory(t *testing.T) {
	s := made(t, 3, 3)
	out, _ := s.Call(makes("a"))
	out[0] = Out{To: 2, Text: "other"}
	more := s.Tick()
	sent(t, more, 1, 3, 1, makes("a"))
	more[0] = Out{}
	sent(t, s.Tick(), 0, 3, 1, makes("a"))
}

func TestAnswersAreNewMemory(t *testing.T) {
	s := made(t, 3, 3)
	r := api.Reply{Entries: []api.Entry{{Name: "a", Cookie: 1}, {Name: "b", Cookie: 2}}}
	for req := 1; req <= 2; req++ {
		calls(t, s, makes("a"), 0, 3, req)
		hears(t, s, 0, told(3, req, r), true)
	}
	first, _ := s.Answer()
	first.Reply.Entries[0].Name = "changed"
	_ = append(first.Reply.Entries, api.Entry{Name: "more"})
	answers(t, s, 2, r)
}

// The chapter's example.

func TestExample(t *testing.T) {
	s := made(t, 3, 3)
	calls(t, s, makes("a"), 0, 3, 1)
	sent(t, s.Tick(), 1, 3, 1, makes("a"))
	hears(t, s, 1, guide(3, 2), false)
	stands(t, s, 1, 0)
	sent(t, s.Tick(), 0, 3, 1, makes("a"))
}
