package ring

import (
	"sexton/answer"
	"sexton/api"
	"sexton/ask"
	"sexton/member"
	"sexton/panel"
	"sexton/post"
	"sexton/stub"
	"sexton/watch"
)

// deed is what a choice of some kind does: the events that are its client's.
type deed func(x api.Choice) []watch.Event

// rows are what choices do, by their kinds.
func (r *Ring) rows() map[int]deed {
	return map[int]deed{
		api.DoCall:    r.call,
		api.DoRetry:   r.retry,
		api.DoDeliver: r.deliver,
		api.DoLose:    r.lose,
		api.DoAgain:   r.again,
		api.DoTick:    r.tick,
		api.DoCrash:   r.crash,
		api.DoStart:   r.start,
		api.DoTrim:    r.trim,
	}
}

// Step does a choice: its events.
func (r *Ring) Step(x api.Choice) []watch.Event {
	if r == nil {
		return nil
	}
	does, there := r.rows()[x.Kind]
	if !there {
		return nil
	}
	events := does(x)
	// What a client calls or is answered changes no member: of such a choice no operation is done, and none could stand at the wrong side of it.
	events = append(events, r.record()...)
	r.look()
	return events
}

// record adds to the history what members have committed beyond it: what was done.
func (r *Ring) record() []watch.Event {
	var events []watch.Event
	for _, x := range r.members {
		for _, y := range beyond(x, len(r.history)) {
			r.history = append(r.history, y)
			events = append(events, watch.Event{Kind: watch.Done, Client: y.Client, Req: y.Req, Body: y.Body})
		}
	}
	return events
}

// beyond are the items behind operation n that a member has committed; none, if it has trimmed some of them. One that is not up has committed nothing.
func beyond(x *member.Member, n int) []api.Item {
	s := x.Stand()
	if s.Commit <= n || s.Base > n {
		return nil
	}
	return x.Items()[n-s.Base : s.Commit-s.Base]
}

// look looks whether the premise is broken.
func (r *Ring) look() {
	f, _ := panel.Faults(len(r.members))
	r.broken = r.broken || r.Down() > f
}

// call has a client make a call.
func (r *Ring) call(x api.Choice) []watch.Event {
	s := r.stub(x.Client)
	out, e := s.Call(x.Call)
	if e != api.OK {
		return nil
	}
	r.ask(x.Client, out)
	req, _ := s.Under()
	body, _ := ask.Pack(x.Call)
	return []watch.Event{{Kind: watch.Called, Client: r.number(x.Client), Req: req, Body: body}}
}

// retry has a client's timer tick.
func (r *Ring) retry(x api.Choice) []watch.Event {
	r.ask(x.Client, r.stub(x.Client).Tick())
	return nil
}

// letter is the number of the letter that a choice is of; 0, which is no letter's, if there is none.
func (r *Ring) letter(x api.Choice) int {
	l := r.post.Waiting()
	if x.N < 0 || x.N >= len(l) {
		return 0
	}
	return l[x.N]
}

// deliver brings a letter to whom it is for.
func (r *Ring) deliver(x api.Choice) []watch.Event {
	y, e := r.post.Take(r.letter(x))
	if e != api.OK {
		return nil
	}
	if y.To >= len(r.members) {
		return r.hear(y)
	}
	r.send(y.To, r.member(y.To).Letter(y.From, y.Body))
	return nil
}

// hear brings a letter to a client. Its answers are taken at once, so that they never fill its inbox.
func (r *Ring) hear(y post.Letter) []watch.Event {
	s := r.stub(y.To - len(r.members))
	if !s.Letter(y.From, y.Body) {
		return nil
	}
	a, _ := s.Answer()
	// Each reply has one form: these are the bytes that came.
	body, _ := answer.Pack(a.Reply)
	return []watch.Event{{Kind: watch.Answered, Client: y.To, Req: a.Req, Body: body}}
}

// lose loses a letter.
func (r *Ring) lose(x api.Choice) []watch.Event {
	r.post.Lose(r.letter(x))
	return nil
}

// again has a letter be there once more.
func (r *Ring) again(x api.Choice) []watch.Event {
	r.post.Again(r.letter(x))
	return nil
}

// tick has a node's timer tick.
func (r *Ring) tick(x api.Choice) []watch.Event {
	r.send(x.Node, r.member(x.Node).Tick())
	return nil
}

// crash has a node crash.
func (r *Ring) crash(x api.Choice) []watch.Event {
	r.member(x.Node).Crash()
	return nil
}

// start has a node start again.
func (r *Ring) start(x api.Choice) []watch.Event {
	out, _ := r.member(x.Node).Start(x.N)
	r.send(x.Node, out)
	return nil
}

// trim has a node trim its log.
func (r *Ring) trim(x api.Choice) []watch.Event {
	r.send(x.Node, r.member(x.Node).Trim())
	return nil
}

// number is a client's number in the ring.
func (r *Ring) number(client int) int { return len(r.members) + client }

// send sends a member's letters; what the post does not take is lost.
func (r *Ring) send(node int, out []member.Out) {
	for _, o := range out {
		r.post.Send(node, o.To, o.Text)
	}
}

// ask sends a client's letters; what the post does not take is lost.
func (r *Ring) ask(client int, out []stub.Out) {
	for _, o := range out {
		r.post.Send(r.number(client), o.To, o.Text)
	}
}
