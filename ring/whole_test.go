package ring

import (
	"slices"
	"strings"
	"testing"

	"sexton/answer"
	"sexton/api"
	"sexton/member"
	"sexton/memo"
	"sexton/shard"
	"sexton/shot"
	"sexton/watch"
)

// P4 to P6, and the examples of the whole.

// reply is what a client is answered to a call, in rounds; all events are gathered.
func reply(t *testing.T, r *Ring, events *[]watch.Event, client int, c api.Call) api.Reply {
	t.Helper()
	*events = append(*events, r.Step(call(client, c))...)
	from := len(*events)
	*events = append(*events, all(r)...)
	for range 60 {
		for _, e := range (*events)[from:] {
			if e.Kind == watch.Answered && e.Client == len(r.members)+client {
				x, no := answer.Unpack(e.Body)
				if no != api.OK {
					t.Fatalf("no reply: %q", e.Body)
				}
				return x
			}
		}
		*events = append(*events, round(r)...)
	}
	t.Fatalf("%+v is not answered", c)
	return api.Reply{}
}

// Examples 1 and 2: a request that is asked again is done once, and answered the same.
func TestOnce(t *testing.T) {
	r := made(t, 3)
	does(r, call(0, makes("a")), deliver(0))
	// As long as no other node has it, nobody is told anything.
	waits(t, r, "0>1:3 0>2:3")
	events := does(r, deliver(1), deliver(1))
	tells(t, events, done(3, 1, bytesOf(makes("a"))))
	waits(t, r, "0>1:3 0>3:2")
	first := letters(r)[1].Body
	does(r, lose(1), retry(0), deliver(1), deliver(1), retry(0)) // node 1 tells it where to go
	waits(t, r, "0>1:3 3>0:1")
	tells(t, r.Step(deliver(1)))
	waits(t, r, "0>1:3 0>3:2")
	if again := letters(r)[1].Body; again != first {
		t.Errorf("%q, %q", first, again)
	}
	events = r.Step(deliver(1))
	x, _ := answer.Unpack(events[0].Body)
	if len(events) != 1 || events[0].Kind != watch.Answered || x.H != (api.Handle{No: 1, Gen: 1}) || len(r.H()) != 1 {
		t.Errorf("%v", events)
	}
}

// Examples 3, 8 and 9.
func TestService(t *testing.T) {
	for _, n := range []int{1, 3, 5, 7} {
		r := made(t, n)
		var events []watch.Event
		is := func(client int, c api.Call, want api.Errno) api.Reply {
			t.Helper()
			x := reply(t, r, &events, client, c)
			if x.E != want {
				t.Errorf("n %d: %+v: %v, want %v", n, c, x.E, want)
			}
			return x
		}
		a := is(0, makes("a"), api.OK).H
		fd := is(0, api.Call{Kind: api.CallOpen, H: a}, api.OK).N
		is(1, api.Call{Kind: api.CallUnlink, H: root, Name: "a"}, api.OK)
		is(2, api.Call{Kind: api.CallWrite, H: a, Data: "text"}, api.OK)
		if x := is(3, api.Call{Kind: api.CallRead, H: a, N: 9}, api.OK); x.Data != "text" {
			t.Errorf("%q", x.Data)
		}
		is(1, api.Call{Kind: api.CallClose, N: fd}, api.NotOpen)
		is(0, api.Call{Kind: api.CallClose, N: fd}, api.OK)
		is(0, api.Call{Kind: api.CallRead, H: a, N: 9}, api.Stale)

		d := is(0, api.Call{Kind: api.CallFolder, H: root, Name: "d"}, api.OK).H
		is(0, api.Call{Kind: api.CallRename, H: root, Name: "d", H2: d, Name2: "e"}, api.Inside)

		names := []string{}
		cookie := 0
		for i := range 10 {
			is(i%4, api.Call{Kind: api.CallMake, H: d, Name: "stays" + string(rune('a'+i))}, api.OK)
		}
		for i := 0; ; i++ {
			page := is(1, api.Call{Kind: api.CallList, H: d, At: cookie, N: 2}, api.OK).Entries
			if len(page) == 0 {
				break
			}
			for _, x := range page {
				cookie = x.Cookie
				if strings.HasPrefix(x.Name, "stays") {
					names = append(names, x.Name)
				}
			}
			is(2, api.Call{Kind: api.CallMake, H: d, Name: "goes"}, api.OK)
			is(3, api.Call{Kind: api.CallUnlink, H: d, Name: "goes"}, api.OK)
		}
		if len(names) != 10 || len(slices.Compact(slices.Sorted(slices.Values(names)))) != 10 {
			t.Errorf("n %d: %v", n, names)
		}
		keeps(t, events)
	}
}

// Examples 4 to 6: the leader crashes, another one leads; it starts again, and is told all, a snapshot too; what it said in its earlier life is late.
func TestLeaderCrashes(t *testing.T) {
	for _, n := range []int{3, 5, 7} {
		r := made(t, n)
		var events []watch.Event
		for i := range 5 {
			reply(t, r, &events, i%4, makes(string(rune('a'+i))))
		}
		reply(t, r, &events, 0, api.Call{Kind: api.CallWrite, H: api.Handle{No: 1, Gen: 1}, Data: strings.Repeat("x", 500)})
		rounds(r, 2)
		does(r, trim(0))
		rounds(r, 1)
		if s := r.Stand(1); s.Base != 6 {
			t.Fatalf("%+v", s)
		}
		// Something that it says, and that comes in its next life.
		does(r, tick(0))
		old := len(r.Waiting())
		does(r, crash(0))
		for range 11 {
			does(r, tick(1))
		}
		for len(r.Waiting()) > old {
			events = append(events, r.Step(deliver(old))...)
		}
		if s := r.Stand(1); s.View != 1 || s.Status != member.Normal {
			t.Fatalf("n %d: %+v", n, s)
		}
		// The client is told where to go: it has heard of view 0 alone, and node 0 is down.
		events = append(events, r.Step(call(2, makes("f")))...)
		does(r, lose(len(r.Waiting())-1), retry(2))
		for len(r.Waiting()) > old {
			events = append(events, r.Step(deliver(old))...)
		}
		if len(watch.Open(events)) != 0 {
			t.Errorf("n %d: not answered", n)
		}
		does(r, start(0, 3))
		if m, _ := memo.Unpack(letters(r)[old].Body); m.Kind != memo.Recover {
			t.Errorf("%v", m)
		}
		kinds := map[int]int{}
		for range 4 {
			for len(r.Waiting()) > old {
				y := letters(r)[old]
				if m, _ := memo.Unpack(y.Body); y.To == 0 {
					kinds[m.Kind]++
				}
				events = append(events, r.Step(deliver(old))...)
			}
			if r.Stand(0).Status == member.Recovering {
				does(r, tick(0))
			}
		}
		if s := r.Stand(0); s.Status != member.Normal || s.View != 1 || s.Base != 6 || s.Applied != r.Stand(1).Applied {
			t.Errorf("n %d: %+v", n, s)
		}
		if !sameState(r.State(0), r.State(1)) || kinds[memo.Inform] != n-1 || kinds[memo.Piece] < 3 {
			t.Errorf("n %d: %v", n, kinds)
		}
		before := see(r)
		for range old {
			tells(t, r.Step(deliver(0)))
		}
		after := see(r)
		if !slices.Equal(before.stands, after.stands) || len(after.letters) != 0 {
			t.Errorf("n %d: what came late did something", n)
		}
		keeps(t, events)
	}
}

// states are those of a trial's replicas.
func states(x *trial) []api.State {
	var l []api.State
	for i, s := range x.stands {
		if s.Up && s.Status != member.Recovering && i <= x.f {
			l = append(l, x.ring.State(i))
		}
	}
	return l
}

// someStates are states that replicas have in some trials.
func someStates(t *testing.T) []api.State {
	t.Helper()
	var l []api.State
	for seed := range 12 {
		x := newTrial(t, []int{1, 3, 5, 7}[seed%4], 6000+seed)
		m := map[int]int{api.DoCall: 30, api.DoDeliver: 100, api.DoTick: 2, api.DoTrim: 4, api.DoCrash: 1, revive: 2}
		for range 20 {
			for range 100 {
				x.happen(m)
			}
			x.calm(oldest)
			l = append(l, states(x)...)
		}
	}
	return l
}

// P4: what was packed and cut is put together again, in whatever order and with whatever else pieces come.
func TestCarried(t *testing.T) {
	p := chance(4)
	turned := 0
	for i, s := range someStates(t) {
		text, e := shot.Pack(s)
		if e != api.OK {
			t.Fatal(e)
		}
		man, pieces, e := shard.Split(i, text)
		if e != api.OK {
			t.Fatal(e)
		}
		a, e := shard.New(man)
		if e != api.OK {
			t.Fatal(e)
		}
		for len(a.Missing()) > 0 {
			x := pieces[p.below(len(pieces))]
			switch p.below(4) {
			case 0:
				// A burst that is turned.
				b := []byte(x.Data)
				at := p.below(len(b))
				b[at] ^= byte(1 + p.below(255))
				if at+3 < len(b) {
					b[at+3] ^= byte(p.below(256))
				}
				x.Data = string(b)
				turned++
				if isNew, e := a.Add(x); isNew || e != api.ErrSum {
					t.Fatalf("a piece that was turned: %v, %v", isNew, e)
				}
			case 1:
				x.Op++
				if isNew, e := a.Add(x); isNew || e != api.ErrMixed {
					t.Fatalf("a piece of another text: %v, %v", isNew, e)
				}
			default:
				if _, e := a.Add(x); e != api.OK {
					t.Fatal(e)
				}
			}
		}
		back, e := a.Text()
		if e != api.OK || back != text {
			t.Fatalf("another text: %v", e)
		}
		if y, e := shot.Unpack(back); e != api.OK || !sameState(y, s) {
			t.Fatalf("another state: %v", e)
		}
	}
	if turned < 100 {
		t.Errorf("only %d were turned", turned)
	}
}

// isTree tells whether a state is a tree of names whose links are counted, within its quotas.
func isTree(s api.State) bool {
	names := make([]int, len(s.Inodes))
	reached := map[int]int{}
	var walk func(no int)
	walk = func(no int) {
		reached[no]++
		if reached[no] > 1 {
			return
		}
		for _, y := range s.Inodes[no].Entries {
			if y.To.No >= len(s.Inodes) || s.Inodes[y.To.No].Gen != y.To.Gen || s.Inodes[y.To.No].Attr.Kind == api.KindFree {
				reached[0] = 99
				return
			}
			names[y.To.No]++
			if s.Inodes[y.To.No].Attr.Kind == api.KindDir {
				walk(y.To.No)
			}
		}
	}
	walk(0)
	held := map[api.Handle]int{}
	for _, y := range s.Opens {
		held[y.Of]++
	}
	bytes := 0
	for no, x := range s.Inodes {
		for _, run := range x.Runs {
			bytes += len(run.Data)
		}
		switch x.Attr.Kind {
		case api.KindDir:
			if reached[no] != 1 || no > 0 && names[no] != 1 || x.Attr.Size != len(x.Entries) {
				return false
			}
		case api.KindFile:
			if names[no] != x.Attr.Links || names[no] > api.MaxLinks || names[no] == 0 && held[api.Handle{No: no, Gen: x.Gen}] == 0 {
				return false
			}
		}
	}
	return len(s.Inodes) <= api.MaxInodes && bytes <= api.MaxBytes && len(s.Opens) <= api.MaxOpens && len(s.Seats) <= api.MaxSeats
}

// P5: what replicas hold is a tree.
func TestTree(t *testing.T) {
	folders, links := 0, 0
	for _, s := range someStates(t) {
		if !isTree(s) {
			t.Fatalf("no tree: %+v", s)
		}
		for _, x := range s.Inodes[1:] {
			if x.Attr.Kind == api.KindDir {
				folders++
			}
			if x.Attr.Links > 1 {
				links++
			}
		}
	}
	if folders < 10 || links < 10 {
		t.Errorf("%d folders, %d links", folders, links)
	}
	// Quotas, too, that are used up.
	r := made(t, 3)
	var events []watch.Event
	room := map[api.Errno]int{}
	for i := range 30 {
		h := reply(t, r, &events, i%4, makes(string([]byte{'f', byte('a' + i)})))
		room[h.E]++
		room[reply(t, r, &events, i%4, api.Call{Kind: api.CallOpen, H: api.Handle{No: 1 + i%23, Gen: 1}}).E]++
		room[reply(t, r, &events, i%4, api.Call{Kind: api.CallWrite, H: api.Handle{No: 1 + i%23, Gen: 1}, At: 600 * i, Data: strings.Repeat("x", 500)}).E]++
		round(r)
		does(r, trim(0))
	}
	if room[api.NoRoom] < 7+14+14 || !isTree(r.State(0)) || !isTree(r.State(1)) {
		t.Errorf("%v, %+v", room, r.State(0))
	}
	keeps(t, events)
}

// P6, example 10: a letter of which a burst is turned is no memo, and does nothing: as if it were lost.
func TestTurned(t *testing.T) {
	p := chance(6)
	kinds := map[int]int{}
	for seed := range 60 {
		x := newTrial(t, []int{1, 3, 5, 7}[seed%4], 7000+seed)
		m := x.mix()
		for range 100 + x.chance.below(200) {
			x.happen(m)
		}
		other := made(t, x.n)
		does(other, x.script...)
		for range 20 {
			count := len(x.ring.Waiting())
			if count == 0 {
				break
			}
			place := p.below(count)
			y := letters(x.ring)[place]
			first := p.below(8 * len(y.Body))
			burst := 1 | p.below(1<<31)<<1
			if p.below(3) == 0 {
				burst = 1
			}
			for bit := range 32 {
				if burst>>bit&1 == 1 {
					x.ring.post.Flip(y.Number, first+bit)
				}
			}
			sent, _ := memo.Unpack(y.Body)
			kinds[sent.Kind]++
			y, _ = x.ring.post.See(y.Number)
			if _, e := memo.Unpack(y.Body); e == api.OK {
				t.Fatalf("seed %d: a memo that was turned", seed)
			}
			tells(t, x.ring.Step(deliver(place)))
			tells(t, other.Step(lose(place)))
			alike(t, x.ring, other, "a letter was turned")
		}
	}
	if len(kinds) < 8 {
		t.Errorf("%v", kinds)
	}
}
