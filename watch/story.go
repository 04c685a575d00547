package watch

import (
	"sexton/api"
	"sexton/mach"
)

// maxBody is how many bytes a call may have.
const maxBody = 4096

// request is whose a request is, and its number.
type request struct{ client, req int }

// requestOf is of which request an event tells.
func requestOf(e Event) request { return request{e.Client, e.Req} }

// fate is what became of a request that was called.
type fate struct {
	body           string // with which it was called
	done, answered bool
	reply          string // what its first operation answers
}

// course is how far a client's requests have come: the last one that was called, the last one that was done; 0, if there is none.
type course struct{ called, done int }

// story is what events told that kept the rules.
type story struct {
	state   api.State // behind all that was done
	fates   map[request]fate
	courses map[int]course
}

// newStory is one in which nothing was told.
func newStory() *story {
	return &story{state: mach.New(), fates: map[request]fate{}, courses: map[int]course{}}
}

// rule is what an event has to keep.
type rule struct {
	number int
	kind   int // of which events it speaks; 0: of all
	kept   func(e Event) bool
}

// rules are all rules, in the order in which they are looked at.
func (s *story) rules() []rule {
	return []rule{
		{number: 1, kept: isRight},
		{number: 2, kind: Called, kept: s.isNext},
		{number: 3, kind: Done, kept: s.wasCalled},
		{number: 4, kind: Done, kept: s.isNew},
		{number: 5, kind: Answered, kept: s.isAnswer},
	}
}

// firstBroken is the number of the first rule that an event breaks; 0, if it breaks none.
func firstBroken(l []rule, e Event) int {
	for _, r := range l {
		if (r.kind == 0 || r.kind == e.Kind) && !r.kept(e) {
			return r.number
		}
	}
	return 0
}

// within tells whether x is from low to high.
func within(low, x, high int) bool { return low <= x && x <= high }

// isRight tells whether an event is one by itself. What an answer may have is for its own rule to say.
func isRight(e Event) bool {
	return within(Called, e.Kind, Answered) &&
		within(0, e.Client, api.MaxBig) &&
		within(1, e.Req, api.MaxBig) &&
		(e.Kind == Answered || len(e.Body) <= maxBody)
}

// isNext tells whether a client may call that now: its requests rise, and each waits for the answer to the one ahead.
func (s *story) isNext(e Event) bool {
	last := s.courses[e.Client].called
	return last == 0 || e.Req > last && s.fates[request{e.Client, last}].answered
}

// wasCalled tells whether what was done was called so.
func (s *story) wasCalled(e Event) bool {
	x, called := s.fates[requestOf(e)]
	return called && x.body == e.Body
}

// isNew tells whether it may be done: no later one was, nor was it itself, unless the machine had no seat in which it could have kept that.
func (s *story) isNew(e Event) bool {
	last := s.courses[e.Client].done
	if e.Req != last {
		return e.Req > last
	}
	_, seated := mach.Known(s.state, e.Client, e.Req)
	return !seated
}

// isAnswer tells whether a client may be answered that now.
func (s *story) isAnswer(e Event) bool {
	x := s.fates[requestOf(e)]
	return x.done && !x.answered && e.Req == s.courses[e.Client].called && x.reply == e.Body
}

// add takes what an event tells that keeps the rules.
func (s *story) add(e Event) {
	x, c := s.fates[requestOf(e)], s.courses[e.Client]
	switch e.Kind {
	case Called:
		x.body = e.Body
		c.called = e.Req
	case Done:
		reply := s.do(e)
		if !x.done {
			x.done, x.reply = true, reply
		}
		c.done = e.Req
	case Answered:
		x.answered = true
	}
	s.fates[requestOf(e)], s.courses[e.Client] = x, c
}

// do does to the machine what was done: its reply.
func (s *story) do(e Event) string {
	// An item that keeps the rules is done, whatever its bytes are: no error is told of it.
	state, reply, _ := mach.Do(s.state, itemOf(e))
	s.state = state
	return reply
}
