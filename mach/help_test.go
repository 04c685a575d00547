package mach

import (
	"reflect"
	"testing"

	"sexton/answer"
	"sexton/api"
	"sexton/ask"
	"sexton/nfs"
)

func at(no, gen int) api.Handle { return api.Handle{No: no, Gen: gen} }

func seatOf(client, req int, reply string) api.Seat {
	return api.Seat{Client: client, Req: req, Reply: reply}
}

// The handles of what is in some.
var (
	root   = at(0, 1)
	dirA   = at(1, 1) // /a
	fileB  = at(2, 1) // /a/b and /f, with a hole
	orphan = at(3, 2) // no name, open once
)

// someDone is how many operations were done to some.
const someDone = 10

// Replies, as bytes.
const (
	isOK      = ""
	isStale   = "\x01\x00\x02\x01\x91"
	isState   = "\x01\x00\x02\x00\x07"
	isFull    = "\x01\x00\x02\x01\x9c"
	isBadCall = "\x01\x00\x02\x01\x9d"
	isTaken   = "\x01\x00\x02\x01\x93"
	isNumber3 = "\x06\x00\x06\x00\x00\x00\x00\x00\x03"
)

// The calls.

func mk(h api.Handle, name string) api.Call {
	return api.Call{Kind: api.CallMake, H: h, Name: name}
}

func mkdir(h api.Handle, name string) api.Call {
	return api.Call{Kind: api.CallFolder, H: h, Name: name}
}

func write(h api.Handle, at int, data string) api.Call {
	return api.Call{Kind: api.CallWrite, H: h, At: at, Data: data}
}

func read(h api.Handle, at, n int) api.Call {
	return api.Call{Kind: api.CallRead, H: h, At: at, N: n}
}

func unlink(h api.Handle, name string) api.Call {
	return api.Call{Kind: api.CallUnlink, H: h, Name: name}
}

func openCall(h api.Handle) api.Call { return api.Call{Kind: api.CallOpen, H: h} }

func closeCall(fd int) api.Call { return api.Call{Kind: api.CallClose, N: fd} }

// body is a call as bytes.
func body(c api.Call) string {
	s, e := ask.Pack(c)
	if e != api.OK {
		panic(e)
	}
	return s
}

// item is a client's request to do a call.
func item(client, req int, c api.Call) api.Item {
	return api.Item{Client: client, Req: req, Body: body(c)}
}

// reply is a reply as bytes.
func reply(r api.Reply) string {
	s, e := answer.Pack(r)
	if e != api.OK {
		panic(e)
	}
	return s
}

// some is a state with files and folders, open files and seats, new each time, with spare room in its lists.
func some() api.State {
	s := nfs.New()
	for _, c := range []api.Call{
		mkdir(root, "a"), mk(dirA, "b"), {Kind: api.CallLink, H: fileB, H2: root, Name: "f"}, write(fileB, 5, "hello"), mk(root, "g"), unlink(root, "g"),
		mk(root, "h"), openCall(orphan), unlink(root, "h"), openCall(fileB),
	} {
		next, r := nfs.Do(s, 5, c)
		if r.E != api.OK {
			panic(r.E)
		}
		s = next
	}
	s.Inodes = append(make([]api.Inode, 0, 9), s.Inodes...)
	s.Opens = append(make([]api.Open, 0, 9), s.Opens...)
	s.Seats = append(make([]api.Seat, 0, 9), seatOf(2, 3, isStale), seatOf(5, 7, isOK), seatOf(9, api.MaxBig, isNumber3))
	return s
}

// seated is some with n seats: of the clients 1, 3, 5 and so on, whose last requests are 10.
func seated(n int) api.State {
	s := some()
	s.Seats = nil
	for i := range n {
		s.Seats = append(s.Seats, seatOf(2*i+1, 10, isTaken))
	}
	return s
}

// plain is a state of its own in which lists of nothing are nil, so that two of them may be held against each other.
func plain(s api.State) api.State {
	var l []api.Inode
	for _, x := range s.Inodes {
		x.Runs = append([]api.Run(nil), x.Runs...)
		x.Entries = append([]api.Entry(nil), x.Entries...)
		l = append(l, x)
	}
	return api.State{Inodes: l, Opens: append([]api.Open(nil), s.Opens...), Seats: append([]api.Seat(nil), s.Seats...), Done: s.Done}
}

func same(a, b api.State) bool { return reflect.DeepEqual(plain(a), plain(b)) }

// changed is a state of its own like s that was changed by each of f.
func changed(s api.State, f ...func(*api.State)) api.State {
	s = plain(s)
	for _, f := range f {
		f(&s)
	}
	return s
}

// seats sets other seats.
func seats(l ...api.Seat) func(*api.State) { return func(s *api.State) { s.Seats = l } }

// done sets how many operations were done.
func done(n int) func(*api.State) { return func(s *api.State) { s.Done = n } }

// want holds what an item does against what it should: the reply, and the state, which is whole.
func want(t *testing.T, s api.State, x api.Item, told string, behind api.State) {
	t.Helper()
	before := plain(s)
	got, reply, e := Do(s, x)
	if reply != told || e != api.OK {
		t.Errorf("Do(%.300v): %q, %v; want %q", x, reply, e, told)
	}
	if !same(got, behind) {
		t.Errorf("Do(%.300v) of %.1000v: %.1000v; want %.1000v", x, s, got, behind)
	}
	if !same(s, before) {
		t.Errorf("Do(%.300v) changes what it is handed: %.1000v; it was %.1000v", x, s, before)
	}
	if Check(got) != api.OK {
		t.Errorf("Do(%.300v): a state that is not whole: %.1000v", x, got)
	}
}

// stays holds what an item does against a reply beside which nothing is changed.
func stays(t *testing.T, s api.State, x api.Item, told string) {
	t.Helper()
	want(t, s, x, told, s)
}

// fails holds what an item does against an error, beside which nothing else is told.
func fails(t *testing.T, s api.State, x api.Item, want api.Errno) {
	t.Helper()
	before := plain(s)
	got, reply, e := Do(s, x)
	if e != want || reply != "" || !reflect.DeepEqual(got, api.State{}) || !same(s, before) {
		t.Errorf("Do(%.300v): %.1000v, %q, %v; want %v", x, got, reply, e, want)
	}
}

// wantKnown holds what is known of a request against what should be.
func wantKnown(t *testing.T, s api.State, client, req int, want string, ok bool) {
	t.Helper()
	if reply, known := Known(s, client, req); reply != want || known != ok {
		t.Errorf("Known(%d, %d) of %.1000v: %q, %v; want %q, %v", client, req, s, reply, known, want, ok)
	}
}
