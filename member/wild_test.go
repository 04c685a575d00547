package member

import (
	"strings"
	"testing"

	"sexton/api"
	"sexton/memo"
	"sexton/shard"
)

// 24.4, P1: whatever is told, nothing falls that must not, and nothing panics.

// someMemo is a memo of which chance says what it is, such as a node might tell, or never would.
func someMemo(p *chance, n int) memo.Memo {
	number := func() int {
		switch p.below(12) {
		case 0:
			return big - p.below(3)
		case 1:
			return p.below(300)
		}
		return p.below(6)
	}
	m := memo.Memo{Kind: 1 + p.below(12), View: number(), Normal: number(), Op: number(), Commit: number(), Base: number(), Low: number(), Client: p.below(33), Number: p.below(3)}
	if p.below(2) == 0 {
		m.Normal, m.Base = 0, 0
	}
	for range n {
		m.Lives = append(m.Lives, p.below(8)/7*p.below(3))
	}
	for range p.below(5) {
		m.Items = append(m.Items, api.Item{View: p.below(2) * p.below(4), Client: p.below(40), Req: 1 + p.below(9), Body: mk("a")})
	}
	if p.below(3) > 0 {
		m.Op = min(m.Base+len(m.Items), big)
	}
	if p.below(3) > 0 {
		m.Commit = min(m.Commit, m.Op)
	}
	if p.below(2) == 0 {
		m.Man.Op, m.Man.Size = min(m.Base+p.below(3), big), 39
		m.Man.Sum = 1700341312
	}
	if m.Kind == memo.Request || p.below(9) == 0 {
		m.Data = mk("b")
	}
	if p.below(40) == 0 {
		m.Data = strings.Repeat("x", 8192)
	}
	return m
}

// holds fails, if what 24.4 says does not hold between two moments.
func holds(t *testing.T, x *Member, was Stand, what string) Stand {
	t.Helper()
	s := x.Stand()
	if !s.Up {
		if s != (Stand{}) {
			t.Fatalf("%s: %+v", what, s)
		}
		return s
	}
	replica := x.id <= x.n/2
	switch {
	case was.Up && (s.View < was.View || s.Commit < was.Commit):
		t.Fatalf("%s: it fell from %+v to %+v", what, was, s)
	case s.Applied > s.Commit || s.Commit > s.Last || s.Last-s.Base != len(x.Items()):
		t.Fatalf("%s: %+v", what, s)
	case replica && s.Base > s.Applied || !replica && (s.Base > s.Commit || s.Applied != 0):
		t.Fatalf("%s: %+v", what, s)
	case s.Status < Normal || s.Status > Recovering || s.View > big || s.Low > s.Commit:
		t.Fatalf("%s: %+v", what, s)
	case isZero(x.State()) != (!replica || s.Status == Recovering):
		t.Fatalf("%s: %+v, %+v", what, s, x.State())
	}
	return s
}

func TestWild(t *testing.T) {
	kinds := map[int]int{}
	normal := 0
	for seed := range 1500 {
		p := chance(seed)
		n := 1 + 2*p.below(4)
		x := made(t, p.below(n), n)
		was := x.Stand()
		nonce := 0
		for range 120 {
			var out []Out
			switch k := p.below(60); {
			case k < 50:
				m := someMemo(&p, n)
				from := p.below(n + 2)
				if p.below(2) == 0 { // of its own time
					m.View = max(0, was.View+p.below(3)-1)
				}
				if p.below(2) == 0 { // in its own life
					m.Lives[x.id] = nonce
				}
				if p.below(3) == 0 {
					m.Op, m.Base = was.Last, was.Last-len(m.Items)
					m.Base = max(m.Base, 0)
					m.Op = m.Base + len(m.Items)
				}
				if was.Status == Recovering && p.below(2) == 0 { // what may let it go on
					m.Kind = memo.Inform + p.below(2)*(memo.Piece-memo.Inform)
					m.Base, m.Normal = p.below(2)*p.below(9), p.below(2)*1700341312
					m.Op = m.Base + len(m.Items)
					m.Commit = m.Base + p.below(len(m.Items)+1)
					m.Man = shard.Manifest{Op: m.Base + p.below(2), Size: 1 + p.below(600), Sum: 1700341312}
					m.Lives = make([]int, n)
					m.Lives[x.id] = nonce
				}
				if from >= n {
					m.Kind, m.Client = memo.Request, from
				}
				text, e := memo.Pack(m)
				if e != api.OK {
					continue
				}
				out = x.Letter(from, text)
			case k < 56:
				for range 1 + p.below(20) {
					out = x.Tick()
				}
			case k < 57:
				out = x.Trim()
			case k < 58:
				x.Crash()
			default:
				if o, e := x.Start(nonce + 1); e == api.OK {
					nonce++
					out = o
				}
			}
			for _, o := range out {
				kinds[open(t, o).Kind]++
				if o.To == x.id || o.To < 0 || o.To > 31 {
					t.Fatalf("seed %d: a letter to %d", seed, o.To)
				}
			}
			was = holds(t, x, was, "wild")
			if was.Status == Normal {
				normal++
			}
		}
	}
	for kind := memo.Told; kind <= memo.Fetch; kind++ {
		if kinds[kind] == 0 {
			t.Errorf("no memo of kind %d was sent", kind)
		}
	}
	if normal < 1000 {
		t.Errorf("normal %d times", normal)
	}
}
