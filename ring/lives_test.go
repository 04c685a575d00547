package ring

import (
	"strings"
	"testing"

	"sexton/member"
)

// Example 6: what a node said in an earlier life does nothing, whether it comes late or came in time.

// bring delivers the first letter of that kind between two.
func bring(t *testing.T, r *Ring, way string) {
	t.Helper()
	for i, s := range strings.Fields(memos(r)) {
		if s == way {
			tells(t, r.Step(deliver(i)))
			return
		}
	}
	t.Fatalf("no %s waits: %s", way, memos(r))
}

func TestLateAck(t *testing.T) {
	r := made(t, 3)
	body := bytesOf(makes("a"))
	does(r, call(0, makes("a")))
	bring(t, r, "3>0:1")
	bring(t, r, "0>1:3")
	does(r, crash(1), start(1, 1))
	for _, way := range []string{"1>0:9", "1>2:9", "0>1:10", "2>1:10"} {
		bring(t, r, way)
	}
	if s := r.Stand(1); s.Status != member.Normal || s.Last != 1 {
		t.Fatalf("%+v", s)
	}
	// It has the item, but that is for it to say in this life.
	bring(t, r, "1>0:4")
	waits(t, r, "0>2:3")
	if s := r.Stand(0); s.Commit != 0 || len(r.H()) != 0 {
		t.Fatalf("%+v", s)
	}
	does(r, tick(0))
	bring(t, r, "0>1:3")
	tells(t, r.Step(deliver(len(r.Waiting())-1)), done(3, 1, body))
}

func TestForgottenAck(t *testing.T) {
	r := made(t, 5)
	body := bytesOf(makes("a"))
	does(r, call(0, makes("a")))
	for _, way := range []string{"5>0:1", "0>1:3", "1>0:4"} {
		bring(t, r, way)
	}
	does(r, crash(1), start(1, 1))
	// The leader hears of the later life ahead of the ack of another one.
	for _, way := range []string{"1>0:9", "0>2:3", "2>0:4", "0>3:3"} {
		bring(t, r, way)
	}
	if s := r.Stand(0); s.Commit != 0 {
		t.Fatalf("%+v", s)
	}
	tells(t, r.Step(deliver(len(r.Waiting())-1)), done(5, 1, body))
}

func TestForgottenChange(t *testing.T) {
	for _, forgets := range []bool{false, true} {
		r := made(t, 5)
		for range 20 {
			does(r, tick(4))
		}
		bring(t, r, "4>3:5")
		does(r, crash(4), start(4, 1))
		if forgets {
			bring(t, r, "4>3:9")
		}
		for range 14 {
			does(r, tick(2))
		}
		bring(t, r, "2>3:5")
		if offers := strings.Contains(memos(r), "3>1:6"); offers == forgets {
			t.Errorf("forgets %v: %s", forgets, memos(r))
		}
	}
}

func TestForgottenOffer(t *testing.T) {
	for _, forgets := range []bool{false, true} {
		r := made(t, 5)
		for range 20 {
			does(r, tick(4))
		}
		// Nodes 2, 3 and 4 change, and offer their logs to node 1, which changes, too.
		for _, way := range []string{"4>3:5", "4>2:5", "3>2:5", "2>3:5", "3>4:5", "2>4:5", "3>1:5", "2>1:5", "4>1:6"} {
			bring(t, r, way)
		}
		does(r, crash(4), start(4, 1))
		if forgets {
			bring(t, r, "4>1:9")
		}
		bring(t, r, "3>1:6")
		leads := r.Stand(1).Status == member.Normal
		if leads == forgets {
			t.Errorf("forgets %v: %+v", forgets, r.Stand(1))
		}
		// Of enough that live still.
		bring(t, r, "2>1:6")
		if s := r.Stand(1); s.Status != member.Normal || s.View != 1 {
			t.Errorf("%+v", s)
		}
	}
}

func TestForgottenInform(t *testing.T) {
	for _, forgets := range []bool{false, true} {
		r := made(t, 5)
		does(r, crash(4), start(4, 1))
		for node := range 4 {
			bring(t, r, "4>"+string(rune('0'+node))+":9")
		}
		bring(t, r, "1>4:10")
		does(r, crash(1), start(1, 1))
		if forgets {
			bring(t, r, "1>4:9")
		}
		bring(t, r, "0>4:10")
		bring(t, r, "2>4:10")
		if recovers := r.Stand(4).Status == member.Recovering; recovers != forgets {
			t.Errorf("forgets %v: %+v", forgets, r.Stand(4))
		}
		bring(t, r, "3>4:10")
		if s := r.Stand(4); s.Status != member.Normal {
			t.Errorf("%+v", s)
		}
	}
}

// What was told to an earlier life does nothing, either.
func TestInformOfEarlierLife(t *testing.T) {
	r := made(t, 3)
	does(r, crash(2), start(2, 1))
	for _, way := range []string{"2>0:9", "2>1:9"} {
		bring(t, r, way)
	}
	does(r, crash(2), start(2, 2))
	bring(t, r, "0>2:10")
	bring(t, r, "1>2:10")
	if s := r.Stand(2); s.Status != member.Recovering {
		t.Fatalf("%+v", s)
	}
	for _, way := range []string{"2>0:9", "2>1:9", "0>2:10", "1>2:10"} {
		bring(t, r, way)
	}
	if s := r.Stand(2); s.Status != member.Normal {
		t.Fatalf("%+v", s)
	}
}
