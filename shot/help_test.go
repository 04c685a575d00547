package shot

import (
	"fmt"
	"reflect"
	"strings"

	"sexton/api"
	"sexton/mach"
)

func at(no, gen int) api.Handle { return api.Handle{No: no, Gen: gen} }

func entry(name string, cookie int, to api.Handle) api.Entry {
	return api.Entry{Name: name, Cookie: cookie, To: to}
}

func run(at int, data string) api.Run { return api.Run{At: at, Data: data} }

func free(gen int) api.Inode { return api.Inode{Gen: gen} }

func file(gen, links, size, stamp int, runs ...api.Run) api.Inode {
	return api.Inode{Gen: gen, Attr: api.Attr{Kind: api.KindFile, Links: links, Size: size, Stamp: stamp}, Runs: runs}
}

func dir(gen, stamp, next int, entries ...api.Entry) api.Inode {
	return api.Inode{Gen: gen, Attr: api.Attr{Kind: api.KindDir, Links: 1, Size: len(entries), Stamp: stamp}, Entries: entries, Next: next}
}

// Replies, as bytes.
const (
	isOK    = ""
	isStale = "\x01\x00\x02\x01\x91"
	isN3    = "\x06\x00\x06\x00\x00\x00\x00\x00\x03"
)

// some is a state with each kind of inode, a hole in a file, open files and seats, new each time, with spare room in each list.
func some() api.State {
	top := append(make([]api.Entry, 0, 9), entry("a", 2, at(1, 1)), entry("f", 5, at(2, 3)))
	below := append(make([]api.Entry, 0, 9), entry("b", 1, at(2, 3)), entry("c", 2, at(3, 1)))
	runs := append(make([]api.Run, 0, 9), run(1, "ab"), run(9, "cde"))
	return api.State{
		Inodes: append(make([]api.Inode, 0, 12),
			dir(1, 4, 6, top...), dir(1, 9, 9, below...), file(3, 2, 15, 20, runs...), dir(1, 3, 1), free(7), file(2, 0, 3, 30, run(0, "xyz"))),
		Opens: append(make([]api.Open, 0, 9), api.Open{Fd: 0, Client: 5, Of: at(5, 2)}, api.Open{Fd: 3, Client: 7, Of: at(2, 3)}),
		Seats: append(make([]api.Seat, 0, 9), api.Seat{Client: 5, Req: 1, Reply: isStale}, api.Seat{Client: 7, Req: 2, Reply: isOK}),
		Done:  30,
	}
}

// great is a state whose numbers are as great as they may be.
func great() api.State {
	big := api.MaxBig
	return api.State{
		Inodes: []api.Inode{
			dir(big, big, big, entry("\xff", big-1, at(1, big)), entry(strings.Repeat("n", 32), big, at(23, big))), dir(big, big, big),
			free(big), free(1), free(big), free(2), free(3), free(4), free(5), free(6), free(7), free(8), free(9), free(1), free(1), free(1), free(1), free(1), free(1), free(1), free(1), free(1), free(1),
			file(big, 1, 1<<20, big, run(0, "\x00"), run(1<<20-8191, strings.Repeat("\xff", 8191))),
		},
		Opens: []api.Open{{Fd: 0, Client: 0, Of: at(23, big)}, {Fd: 15, Client: big, Of: at(23, big)}},
		Seats: []api.Seat{{Client: 0, Req: 1}, {Client: big - 1, Req: big, Reply: isN3}, {Client: big, Req: big, Reply: isStale}},
		Done:  big,
	}
}

// crowd is a root with n names of 32 bytes and one of last bytes, of files with at most 64 names each.
func crowd(n, last int) api.State {
	s := api.State{Inodes: []api.Inode{{}}}
	var l []api.Entry
	for i := range n + 1 {
		no := i/64 + 1
		if no == len(s.Inodes) {
			s.Inodes = append(s.Inodes, file(1, 0, 0, 0))
		}
		s.Inodes[no].Attr.Links++
		name := fmt.Sprintf("%032d", i)
		if i == n {
			name = strings.Repeat("L", last)
		}
		l = append(l, entry(name, i+1, at(no, 1)))
	}
	s.Inodes[0] = dir(1, 0, n+1, l...)
	return s
}

// sieve is a root with a file of n runs that have extra bytes more than one each, all in the first one.
func sieve(n, extra int) api.State {
	runs := []api.Run{run(0, strings.Repeat("s", 1+extra))}
	for i := 1; i < n; i++ {
		runs = append(runs, run(2*i+extra, "s"))
	}
	return api.State{Inodes: []api.Inode{dir(1, 0, 1, entry("s", 1, at(1, 1))), file(1, 1, 1<<20, 0, runs...)}}
}

// plain is a state of its own in which lists of nothing are nil, so that two of them may be held against each other.
func plain(s api.State) api.State {
	var l []api.Inode
	for _, x := range s.Inodes {
		x.Runs = append([]api.Run(nil), x.Runs...)
		x.Entries = append([]api.Entry(nil), x.Entries...)
		l = append(l, x)
	}
	return api.State{Inodes: l, Opens: append([]api.Open(nil), s.Opens...), Seats: append([]api.Seat(nil), s.Seats...), Done: s.Done}
}

func same(a, b api.State) bool { return reflect.DeepEqual(plain(a), plain(b)) }

// changed is a state of its own like s that was changed by f.
func changed(s api.State, f func(*api.State)) api.State {
	s = plain(s)
	f(&s)
	return s
}

// rightStates are whole states of whose values none is too long.
func rightStates() []api.State {
	l := []api.State{
		mach.New(), some(), great(), crowd(0, 1), crowd(63, 32), crowd(64, 7), crowd(1363, 32), crowd(1364, 19), crowd(1364, 20), sieve(1, 0), sieve(1, 8191), sieve(2, 100), sieve(8187, 0), sieve(8188, 0), sieve(8188, 4),
		changed(some(), func(s *api.State) { s.Seats = nil }),
		changed(some(), func(s *api.State) { s.Done = api.MaxBig }),
		changed(some(), func(s *api.State) { s.Inodes = append(s.Inodes, free(1), free(2)) }),
		{Inodes: []api.Inode{dir(1, 0, 0), free(1)}, Opens: []api.Open{}, Seats: []api.Seat{}, Done: 1},
	}
	var page string
	for i := range 64 {
		page += fmt.Sprintf("\x05\x00\x2d\x00\x00\x00\x00\x00%c\x00\x00\x00\x00\x00\x00\x01%032d", rune(i+1), i)
	}
	full := changed(some(), func(s *api.State) { s.Opens, s.Seats = nil, nil })
	for i := range 16 {
		full.Opens = append(full.Opens, api.Open{Fd: i, Client: i % 3, Of: at(5, 2)})
	}
	for i := range 6 {
		full.Seats = append(full.Seats, api.Seat{Client: i, Req: i + 1, Reply: []string{isOK, isStale, page}[i%3]})
	}
	return append(l, full)
}

// longStates are whole states of which a value is too long.
func longStates() []api.State {
	return []api.State{
		crowd(1364, 21), crowd(1364, 32), crowd(1365, 1), crowd(1471, 32), sieve(8189, 0), sieve(8189, 3), sieve(8192, 0),
		changed(crowd(1364, 21), func(s *api.State) { s.Seats = []api.Seat{{Client: 5, Req: 1, Reply: isStale}} }),
	}
}

// wrongStates are states that are not whole, each for one reason.
func wrongStates() []api.State {
	l := []api.State{{}, {Done: 1}, {Inodes: []api.Inode{}}, crowd(1472, 1), sieve(8192, 1)}
	for _, f := range []func(*api.State){
		func(s *api.State) { s.Done = -1 }, func(s *api.State) { s.Done = api.MaxBig + 1 }, func(s *api.State) { s.Done = 29 }, func(s *api.State) { s.Done = 1 << 60 },
		func(s *api.State) { s.Inodes[0].Gen = 0 }, func(s *api.State) { s.Inodes[4].Gen = api.MaxBig + 1 }, func(s *api.State) { s.Inodes[4].Gen = 0 }, func(s *api.State) { s.Inodes[4].Next = 1 },
		func(s *api.State) { s.Inodes[2].Attr.Links = 3 }, func(s *api.State) { s.Inodes[2].Attr.Size = 11 }, func(s *api.State) { s.Inodes[2].Attr.Stamp = 31 }, func(s *api.State) { s.Inodes[2].Attr.Kind = 256 + 1 },
		func(s *api.State) { s.Inodes[0].Attr.Size = 3 }, func(s *api.State) { s.Inodes[0].Next = 4 }, func(s *api.State) { s.Inodes[0].Next = -1 }, func(s *api.State) { s.Inodes[0].Next = api.MaxBig + 1 },
		func(s *api.State) { s.Inodes[2].Runs[0].At = -1 }, func(s *api.State) { s.Inodes[2].Runs[0].At = 7 }, func(s *api.State) { s.Inodes[2].Runs[0].Data = "" }, func(s *api.State) { s.Inodes[3].Runs = []api.Run{run(0, "x")} },
		func(s *api.State) { s.Inodes[0].Entries[0].Name = "a/b" }, func(s *api.State) { s.Inodes[0].Entries[0].Name = "f" }, func(s *api.State) { s.Inodes[0].Entries[0].Cookie = 0 }, func(s *api.State) { s.Inodes[0].Entries[0].Cookie = 5 },
		func(s *api.State) { s.Inodes[0].Entries[0].To.Gen = 2 }, func(s *api.State) { s.Inodes[0].Entries[1].To.No = 258 }, func(s *api.State) { s.Inodes[0].Entries[1].To.Gen = 3 + 1<<48 },
		func(s *api.State) { s.Opens[0].Fd = 3 }, func(s *api.State) { s.Opens[0].Fd = -1 }, func(s *api.State) { s.Opens[1].Fd = 16 }, func(s *api.State) { s.Opens[0].Client = -1 }, func(s *api.State) { s.Opens[1].Of = at(1, 1) }, func(s *api.State) { s.Opens = s.Opens[1:] },
		func(s *api.State) { s.Seats[0].Client = 7 }, func(s *api.State) { s.Seats[0].Client = -1 }, func(s *api.State) { s.Seats[1].Client = api.MaxBig + 1 }, func(s *api.State) { s.Seats[0].Req = 0 }, func(s *api.State) { s.Seats[0].Req = api.MaxBig + 1 },
		func(s *api.State) { s.Seats[0].Reply = "x" }, func(s *api.State) { s.Seats[1].Reply = "\x01\x00\x02\x00\x00" }, func(s *api.State) { s.Seats[1].Reply = strings.Repeat("r", 8193) },
	} {
		l = append(l, changed(some(), f))
	}
	return l
}
