package member

import (
	"testing"

	"sexton/answer"
	"sexton/api"
	"sexton/mach"
	"sexton/memo"
)

// 24.5: a single member answers each request as a machine does.

func TestAlone(t *testing.T) {
	for seed := range 20 {
		w := newWorld(t, 1, seed)
		x := made(t, 0, 1)
		m := mach.New()
		var done []api.Item
		reqs := map[int]int{}
		for range 400 {
			client := 1 + w.chance.below(8) // more than there are seats
			reqs[client] += 1 + w.chance.below(2)
			data := body(w.someCall())
			if w.chance.below(10) == 0 {
				data = "no call"
			}
			y := api.Item{Client: client, Req: reqs[client], Body: data}
			next, reply, e := mach.Do(m, y)
			if e != api.OK {
				t.Fatal(e)
			}
			out := x.Letter(client, request(client, y.Req, data))
			if len(out) == 0 { // the log is full
				if s := x.Stand(); s.Last-s.Base < 256 && cost(x.Items())+24+len(data) <= MaxLog {
					t.Fatalf("seed %d: nothing of %v", seed, y)
				}
				x.Trim()
				if s := x.Stand(); s.Base != s.Last || s.Low != s.Last || len(x.Items()) != 0 {
					t.Fatalf("seed %d: %v", seed, s)
				}
				out = x.Letter(client, request(client, y.Req, data))
			}
			m = next
			done = append(done, y)
			sends(t, out, sent{client, memo.Memo{Kind: memo.Told, Client: client, Op: y.Req, Data: reply}})
			s := x.Stand()
			stands(t, x, Stand{Up: true, Status: Normal, Base: s.Base, Last: len(done), Commit: len(done), Applied: len(done), Low: s.Base})
			if !sameItems(x.Items(), done[s.Base:]) {
				t.Fatalf("seed %d: another log", seed)
			}
			sends(t, x.Tick())
		}
		if !sameState(x.State(), m) {
			t.Errorf("seed %d: another state", seed)
		}
	}
}

func TestSeventhClient(t *testing.T) {
	x := made(t, 0, 1)
	for client := 1; client <= 6; client++ {
		x.Letter(client, request(client, 1, mk("a")))
	}
	out := x.Letter(7, request(7, 1, mk("b")))
	if len(out) != 1 {
		t.Fatalf("%v", opened(t, out))
	}
	if r, e := answer.Unpack(open(t, out[0]).Data); e != api.OK || r.E != api.Sessions {
		t.Errorf("%v, %v", r, e)
	}
}

// 24.6: a witness has no state, and tells no client anything but who leads.

func TestWitnesses(t *testing.T) {
	for _, n := range []int{3, 5, 7} {
		c := newCluster(t, n)
		for id := n/2 + 1; id < n; id++ {
			x := c.l[id]
			look := func() {
				t.Helper()
				if !isZero(x.State()) || x.Stand().Applied != 0 {
					t.Errorf("%d of %d: %v", id, n, x.Stand())
				}
				for _, req := range []int{1, 2} {
					view := x.Stand().View
					sends(t, x.Letter(n, request(n, req, mk("a"))), sent{n, memo.Memo{Kind: memo.Told, Client: n, View: view}})
				}
			}
			look()
			c.ask(0, n, 2*id, mk("a"))
			c.tick(0, 2)
			if s := x.Stand(); s.Commit == 0 {
				t.Errorf("%v", s)
			}
			look()
			// It never leads, whatever it is offered.
			for view := range 9 {
				for from := range n {
					if from != id {
						out := x.Letter(from, said(n, memo.Memo{Kind: memo.Offer, View: view, Op: 1, Items: items(1)}))
						if len(out) != 0 {
							t.Errorf("%v", opened(t, out))
						}
					}
				}
			}
			look()
		}
	}
}

// The chapter's example.

func TestExample(t *testing.T) {
	x := made(t, 0, 1)
	out := x.Letter(1, request(1, 1, mk("a")))
	if len(out) != 1 || out[0].To != 1 {
		t.Fatalf("%v", opened(t, out))
	}
	m := open(t, out[0])
	r, e := answer.Unpack(m.Data)
	if m.Kind != memo.Told || m.Op != 1 || e != api.OK || r.E != api.OK || r.H != (api.Handle{No: 1, Gen: 1}) {
		t.Errorf("%v, %v", m, r)
	}
	stands(t, x, Stand{Up: true, Status: Normal, Last: 1, Commit: 1, Applied: 1})
}

// The document's examples of the whole.

func TestExamplesOfTheWhole(t *testing.T) {
	c := newCluster(t, 3)
	a := api.Handle{No: 1, Gen: 1}
	c.cut = 6
	c.ask(0, 3, 1, mk("a"))
	if len(c.told) != 0 {
		t.Error("told when no other node has it")
	}
	c.cut = 2 // node 2 alone
	c.tick(0, 1)
	if _, m, r := c.reply(); r.H != a || m.Op != 1 || len(c.told) != 1 {
		t.Errorf("%v", r)
	}
	c.cut = 0
	first := c.told[0]
	c.ask(0, 3, 1, mk("a"))
	if again := c.told[1]; again.m.Data != first.m.Data || c.l[0].Stand().Last != 1 {
		t.Error("it was not done once")
	}
	root := api.Handle{No: 0, Gen: 1}
	for i, y := range []struct {
		call api.Call
		want api.Errno
	}{
		{api.Call{Kind: api.CallOpen, H: a}, api.OK},
		{api.Call{Kind: api.CallUnlink, H: root, Name: "a"}, api.OK},
		{api.Call{Kind: api.CallWrite, H: a, Data: "x"}, api.OK},
		{api.Call{Kind: api.CallRead, H: a, N: 1}, api.OK},
		{api.Call{Kind: api.CallClose}, api.OK},
		{api.Call{Kind: api.CallRead, H: a, N: 1}, api.Stale},
	} {
		c.ask(0, 3, 2+i, body(y.call))
		if _, m, r := c.reply(); m.Op != 2+i || r.E != y.want {
			t.Errorf("%v: %v", y.call, r)
		}
	}
	// The leader crashes, and forgets all; the next replica's timer: view 1; the client is told where to go.
	late := c.l[0].Tick()
	c.crash(0)
	c.tick(1, 11)
	c.ask(2, 3, 8, mk("b"))
	if _, m, _ := c.reply(); m.Op != 0 || m.View != 1 {
		t.Errorf("%v", m)
	}
	c.ask(1, 3, 8, mk("b"))
	if _, m, r := c.reply(); m.Op != 8 || r.E != api.OK {
		t.Errorf("%v", r)
	}
	// The crashed one starts with a nonce.
	c.start(0, 1)
	stands(t, c.l[0], Stand{Up: true, Status: Normal, View: 1, Last: 8, Commit: 8, Applied: 8})
	// What it said in its earlier life comes late: nothing.
	was := []Stand{c.l[1].Stand(), c.l[2].Stand()}
	for _, o := range late {
		if out := c.l[o.To].Letter(0, o.Text); len(out) != 0 {
			t.Errorf("%v", opened(t, out))
		}
	}
	stands(t, c.l[1], was[0])
	stands(t, c.l[2], was[1])
	// A letter of which a bit is turned: nothing.
	o := c.l[1].Tick()[0]
	if out := c.l[0].Letter(1, turned(o.Text, 77, 1)); len(out) != 0 {
		t.Errorf("%v", opened(t, out))
	}
}
