package ring

import (
	"testing"

	"sexton/memo"
)

// A siege is a trial in which little happens by chance alone: some nodes do something together, of which the others hear late or never; what they said comes again long behind it.

// someNodes is a set of nodes, with one of them in it; often just as many as are enough.
func (x *trial) someNodes(node int) int {
	set := 1 << node
	size := []int{x.f + 1, x.f + 1, x.f + 1, x.f + 2, x.n, 2}[x.chance.below(6)]
	for count := 1; count < min(size, x.n); {
		if i := x.chance.below(x.n); set>>i&1 == 0 {
			set |= 1 << i
			count++
		}
	}
	return set
}

// among delivers letters that were sent behind a number, as long as there are such between nodes of a set and clients, but at most so many. Some stay, too, as if they came twice.
func (x *trial) among(set, behind, most int) {
	x.t.Helper()
	set |= (1<<Clients - 1) << x.n
	for range most {
		at, number := -1, 0
		for i, waiting := range x.ring.Waiting() {
			y, _ := x.ring.post.See(waiting)
			if waiting > behind && !x.twins[waiting] && set>>y.From&1 == 1 && set>>y.To&1 == 1 {
				at, number = i, waiting
				break
			}
		}
		if at < 0 {
			return
		}
		behind = number
		if x.chance.below(4) == 0 {
			x.step(again(at))
			x.twins[x.lastNumber()] = true
		}
		x.step(deliver(at))
	}
}

// lastNumber is the greatest number of a letter that waits; 0, if there is none.
func (x *trial) lastNumber() int {
	l := x.ring.Waiting()
	if len(l) == 0 {
		return 0
	}
	return l[len(l)-1]
}

// some is how many letters come: often all.
func (x *trial) some() int { return []int{1, 2, 4, 8, 300, 300, 300, 300}[x.chance.below(8)] }

// timeout has a node tick until it changes to another view, or for a while.
func (x *trial) timeout(node int) {
	x.t.Helper()
	view := x.stands[node].View
	for range 8 + 3*node {
		x.step(tick(node))
		if x.stands[node].View != view {
			return
		}
	}
}

// ask has a client call, or go on with what it called, so that each replica has its letter.
func (x *trial) ask() {
	x.t.Helper()
	client := x.chance.below(Clients)
	x.step(call(client, x.someCall()))
	for range x.f + 1 {
		x.step(retry(client))
	}
}

// late has letters come that waited long: any, or those of one kind.
func (x *trial) late() {
	x.t.Helper()
	kind := []int{0, memo.Offer, memo.Change, memo.Ack, memo.Inform, memo.Start, memo.Piece}[x.chance.below(7)]
	var places []int
	for i, y := range letters(x.ring) {
		if m, _ := memo.Unpack(y.Body); kind == 0 || m.Kind == kind {
			places = append(places, i)
		}
	}
	for range 1 + x.chance.below(4) {
		if len(places) == 0 {
			return
		}
		i := x.chance.below(len(places))
		if x.chance.below(3) == 0 {
			x.step(again(places[i]))
		}
		x.step(deliver(places[i]))
		// Those behind it have moved up.
		for j := range places {
			if places[j] > places[i] {
				places[j]--
			}
		}
		places = append(places[:i], places[i+1:]...)
	}
}

// act has some nodes do something together.
func (x *trial) act() {
	x.t.Helper()
	node := x.chance.below(x.n)
	set := x.someNodes(node)
	mark := x.lastNumber()
	switch x.chance.below(10) {
	case 0, 1:
		x.ask()
		x.among(set, mark, x.some())
	case 2, 3:
		x.timeout(node)
		x.among(set, mark, x.some())
	case 4:
		x.step(tick(node))
		x.among(set, mark, x.some())
	case 5:
		if x.mayCrash(node) {
			x.step(crash(node))
		}
	case 6, 7:
		x.awake(set)
	case 8:
		x.late()
	case 9:
		x.step(trim(node))
	}
	for len(x.ring.Waiting()) > 150 {
		x.step(lose(x.chance.below(150)))
	}
}

// awake has a node that is down start, and recover by others of a set; if none is, it has one crash.
func (x *trial) awake(set int) {
	x.t.Helper()
	var down []int
	for i, s := range x.stands {
		if !s.Up {
			down = append(down, i)
		}
	}
	if len(down) == 0 {
		node := x.chance.below(x.n)
		if !x.mayCrash(node) {
			return
		}
		x.step(crash(node))
		down = append(down, node)
	}
	node := down[x.chance.below(len(down))]
	mark := x.lastNumber()
	x.nonces[node]++
	x.step(start(node, x.nonces[node]))
	if x.chance.below(4) == 0 {
		x.late()
	}
	for range 1 + x.chance.below(3) {
		x.among(set|1<<node, mark, x.some())
		x.step(tick(node))
	}
}

// sieges are some of n nodes.
func sieges(t *testing.T, n, from, to int) tellings {
	t.Helper()
	var y tellings
	for seed := from; seed < to; seed++ {
		x := newTrial(t, n, seed)
		for range 2 {
			for range 60 + x.chance.below(60) {
				x.act()
			}
			y.rounds = max(y.rounds, x.calm(x.chance.below(orders)))
		}
		x.keeps()
		y.add(x)
	}
	return y
}

// 27.2 to 27.7, P2, P3, P7, where letters come very late.
func TestSieges(t *testing.T) {
	for _, n := range []int{3, 5, 7} {
		y := sieges(t, n, 20000, 20030)
		if y.answered < 150 || y.views < 10 || y.lives < 80 {
			t.Errorf("n %d: little happens: %+v", n, y)
		}
	}
}
