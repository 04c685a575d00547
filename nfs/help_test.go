package nfs

import (
	"reflect"
	"strconv"
	"strings"
	"testing"

	"sexton/api"
)

func at(no, gen int) api.Handle { return api.Handle{No: no, Gen: gen} }

func entry(name string, cookie int, to api.Handle) api.Entry {
	return api.Entry{Name: name, Cookie: cookie, To: to}
}

func run(at int, data string) api.Run { return api.Run{At: at, Data: data} }

func open(fd, client int, of api.Handle) api.Open { return api.Open{Fd: fd, Client: client, Of: of} }

func free(gen int) api.Inode { return api.Inode{Gen: gen} }

func file(gen, links, size, stamp int, runs ...api.Run) api.Inode {
	return api.Inode{Gen: gen, Attr: api.Attr{Kind: api.KindFile, Links: links, Size: size, Stamp: stamp}, Runs: runs}
}

func dir(gen, stamp, next int, entries ...api.Entry) api.Inode {
	return api.Inode{Gen: gen, Attr: api.Attr{Kind: api.KindDir, Links: 1, Size: len(entries), Stamp: stamp}, Entries: entries, Next: next}
}

// bytes are n bytes of which no two beside each other are the same.
func bytes(n int) string { return strings.Repeat("0123456789abcdef", n/16+1)[:n] }

// The handles of what is in some.
var (
	root   = at(0, 1)
	dirA   = at(1, 1) // /a
	fileB  = at(2, 3) // /a/b and /f, open twice
	dirC   = at(3, 1) // /a/c
	orphan = at(5, 2) // no name, open once
	dirE   = at(6, 2) // /a/c/e, empty
	fileG  = at(7, 1) // /a/g, empty
)

// someDone is how many operations were done to some, and now is the next one's stamp.
const (
	someDone = 30
	now      = someDone + 1
)

// some is a state with each kind of inode, open files and seats, new each time, with spare room in each list.
func some() api.State {
	top := append(make([]api.Entry, 0, 9), entry("a", 2, dirA), entry("f", 5, fileB))
	below := append(make([]api.Entry, 0, 9), entry("b", 1, fileB), entry("c", 2, dirC), entry("g", 7, fileG))
	runs := append(make([]api.Run, 0, 9), run(1, "ab"), run(9, "cde"))
	return api.State{
		Inodes: append(make([]api.Inode, 0, 12),
			dir(1, 4, 6, top...), dir(1, 9, 9, below...), file(3, 2, 15, 20, runs...), dir(1, 3, 1, entry("e", 1, dirE)),
			free(7), file(2, 0, 3, 8, run(0, "xyz")), dir(2, 0, 4), file(1, 1, 0, someDone)),
		Opens: append(make([]api.Open, 0, 9), open(0, 5, fileB), open(1, 5, orphan), open(3, 7, fileB)),
		Seats: append(make([]api.Seat, 0, 9), api.Seat{Client: 5, Req: 1, Reply: "reply"}, api.Seat{Client: 7, Req: 2}),
		Done:  someDone,
	}
}

// plain is a state of its own in which lists of nothing are nil, so that two of them may be held against each other.
func plain(s api.State) api.State {
	var l []api.Inode
	for _, x := range s.Inodes {
		x.Runs = append([]api.Run(nil), x.Runs...)
		x.Entries = append([]api.Entry(nil), x.Entries...)
		l = append(l, x)
	}
	return api.State{Inodes: l, Opens: append([]api.Open(nil), s.Opens...), Seats: append([]api.Seat(nil), s.Seats...), Done: s.Done}
}

func same(a, b api.State) bool { return reflect.DeepEqual(plain(a), plain(b)) }

// changed is a state of its own like s that was changed by each of f.
func changed(s api.State, f ...func(*api.State)) api.State {
	s = plain(s)
	for _, f := range f {
		f(&s)
	}
	return s
}

// inode sets another inode into a place, which may be the one behind the last.
func inode(no int, x api.Inode) func(*api.State) {
	return func(s *api.State) {
		if no == len(s.Inodes) {
			s.Inodes = append(s.Inodes, api.Inode{})
		}
		s.Inodes[no] = x
	}
}

// opened sets other open files.
func opened(l ...api.Open) func(*api.State) { return func(s *api.State) { s.Opens = l } }

// done sets how many operations were done.
func done(n int) func(*api.State) { return func(s *api.State) { s.Done = n } }

// attrs changes an inode's attributes.
func attrs(no int, f func(*api.Attr)) func(*api.State) {
	return func(s *api.State) { f(&s.Inodes[no].Attr) }
}

// stamp sets an inode's stamp.
func stamp(no, n int) func(*api.State) { return attrs(no, func(a *api.Attr) { a.Stamp = n }) }

// full is a root with n bytes in files of at most 5000 bytes each: n0, n1 and so on.
func full(n int) api.State {
	s := api.State{Inodes: []api.Inode{dir(1, 0, 0)}, Done: 9}
	for no := 1; n > 0; no++ {
		size := min(n, 5000)
		n -= size
		s.Inodes = append(s.Inodes, file(1, 1, size+no, 0, run(no, bytes(size))))
		names := append(s.Inodes[0].Entries, entry("n"+strconv.Itoa(no-1), no, at(no, 1)))
		s.Inodes[0] = dir(1, 0, no, names...)
	}
	return s
}

// links are a root alone with a file that has n names in it, n0, n1 and so on, of which each second cookie is given; client 5 has it open.
func links(n int) api.State {
	var entries []api.Entry
	for i := range n {
		entries = append(entries, entry("n"+strconv.Itoa(i), 2*i+1, at(1, 1)))
	}
	return api.State{Inodes: []api.Inode{dir(1, 0, 2*n, entries...), file(1, n, 0, 0)}, Opens: []api.Open{open(0, 5, at(1, 1))}, Done: 200}
}

// crowded is a root with as many files as there may be: n1, n2 and so on.
func crowded() api.State {
	s := api.State{Inodes: []api.Inode{dir(1, 0, 99)}}
	for no := 1; no < api.MaxInodes; no++ {
		s.Inodes = append(s.Inodes, file(1, 1, 0, 0))
		s.Inodes[0] = dir(1, 0, 99, append(s.Inodes[0].Entries, entry("n"+strconv.Itoa(no), no, at(no, 1)))...)
	}
	return s
}

// want holds what a call answers against what it should: the reply, and the state that the one handed in is behind changes; Done is one more.
func want(t *testing.T, s api.State, client int, c api.Call, r api.Reply, f ...func(*api.State)) api.State {
	t.Helper()
	before := plain(s)
	got, reply := Do(s, client, c)
	if len(reply.Entries) == 0 {
		reply.Entries = nil
	}
	if !reflect.DeepEqual(reply, r) {
		t.Errorf("%.300v: %.300v; want %.300v", c, reply, r)
	}
	f = append(f, func(s *api.State) { s.Done++ })
	if w := changed(s, f...); !same(got, w) {
		t.Errorf("%.300v of %.1000v: %.1000v; want %.1000v", c, s, got, w)
	}
	if !same(s, before) {
		t.Errorf("%.300v changes what it is handed: %.1000v; it was %.1000v", c, s, before)
	}
	if Check(got) != api.OK {
		t.Errorf("%.300v: a state that is not right: %.1000v", c, got)
	}
	return got
}

// fails holds what a call answers against an error, beside which nothing else is told, and nothing is changed but Done.
func fails(t *testing.T, s api.State, client int, c api.Call, e api.Errno) {
	t.Helper()
	want(t, s, client, c, api.Reply{E: e})
}

// try does a call: the state, the reply.
func try(t *testing.T, s api.State, client int, c api.Call, e api.Errno) (api.State, api.Reply) {
	t.Helper()
	x, r := Do(s, client, c)
	if r.E != e || Check(x) != api.OK {
		t.Errorf("%.300v: %v, a state with Check %v; want %v", c, r.E, Check(x), e)
	}
	return x, r
}

// The calls.

func look(h api.Handle, name string) api.Call {
	return api.Call{Kind: api.CallLook, H: h, Name: name}
}

func attrCall(h api.Handle) api.Call { return api.Call{Kind: api.CallAttr, H: h} }

func mk(h api.Handle, name string) api.Call {
	return api.Call{Kind: api.CallMake, H: h, Name: name}
}

func mkdir(h api.Handle, name string) api.Call {
	return api.Call{Kind: api.CallFolder, H: h, Name: name}
}

func read(h api.Handle, at, n int) api.Call {
	return api.Call{Kind: api.CallRead, H: h, At: at, N: n}
}

func write(h api.Handle, at int, data string) api.Call {
	return api.Call{Kind: api.CallWrite, H: h, At: at, Data: data}
}

func cut(h api.Handle, at int) api.Call { return api.Call{Kind: api.CallCut, H: h, At: at} }

func link(h, dir api.Handle, name string) api.Call {
	return api.Call{Kind: api.CallLink, H: h, H2: dir, Name: name}
}

func unlink(h api.Handle, name string) api.Call {
	return api.Call{Kind: api.CallUnlink, H: h, Name: name}
}

func rmdir(h api.Handle, name string) api.Call {
	return api.Call{Kind: api.CallRmdir, H: h, Name: name}
}

func rename(h api.Handle, name string, h2 api.Handle, name2 string) api.Call {
	return api.Call{Kind: api.CallRename, H: h, Name: name, H2: h2, Name2: name2}
}

func list(h api.Handle, cookie, n int) api.Call {
	return api.Call{Kind: api.CallList, H: h, At: cookie, N: n}
}

func openCall(h api.Handle) api.Call { return api.Call{Kind: api.CallOpen, H: h} }

func closeCall(fd int) api.Call { return api.Call{Kind: api.CallClose, N: fd} }
