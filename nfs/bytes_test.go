package nfs

import (
	"slices"
	"strconv"
	"strings"
	"testing"

	"sexton/api"
)

// 15.2: bytes

func TestRead(t *testing.T) {
	s := some()
	all := "\x00ab\x00\x00\x00\x00\x00\x00cde\x00\x00\x00" // 15 bytes: holes ahead, between and behind
	for at := range 18 {
		for n := range 18 {
			from := min(at, 15)
			want(t, s, 0, read(fileB, at, n), api.Reply{Data: all[from:min(from+n, 15)]})
		}
	}
	for _, n := range []int{0, 1, 511, 512, 513, 65535} {
		want(t, s, 0, read(fileG, 0, n), api.Reply{})
		want(t, s, 0, read(fileB, 15, n), api.Reply{})
		want(t, s, 0, read(fileB, 1<<32-1, n), api.Reply{})
		want(t, s, 0, read(orphan, 0, n), api.Reply{Data: "xyz"[:min(n, 3)]})
		want(t, s, 0, read(orphan, 2, n), api.Reply{Data: "z"[:min(n, 1)]})
	}
	fails(t, s, 0, read(root, 0, 1), api.Folder)
	fails(t, s, 0, read(dirE, 1<<32-1, 65535), api.Folder)
}

// TestReadLong: no more than MaxWrite bytes are read, however many are asked for.
func TestReadLong(t *testing.T) {
	s := changed(some(), inode(7, file(1, 1, 2000, 0, run(100, bytes(1000)))))
	all := strings.Repeat("\x00", 100) + bytes(1000) + strings.Repeat("\x00", 900)
	for _, n := range []int{0, 1, api.MaxWrite - 1, api.MaxWrite, api.MaxWrite + 1, 1024, 65535} {
		for _, at := range []int{0, 1, 99, 100, 587, 588, 589, 1099, 1100, 1487, 1488, 1489, 1999, 2000, 2001} {
			from := min(at, 2000)
			want(t, s, 0, read(fileG, at, n), api.Reply{Data: all[from:min(from+min(n, api.MaxWrite), 2000)]})
		}
	}
	// Up to the greatest size.
	s = changed(some(), inode(7, file(1, 1, api.MaxSize, 0, run(api.MaxSize-2, "yz"))))
	want(t, s, 0, read(fileG, api.MaxSize-3, 9), api.Reply{Data: "\x00yz"})
	want(t, s, 0, read(fileG, api.MaxSize-1, 9), api.Reply{Data: "z"})
	want(t, s, 0, read(fileG, api.MaxSize, 9), api.Reply{})
	want(t, s, 0, read(fileG, api.MaxSize+1, 9), api.Reply{})
}

func TestWrite(t *testing.T) {
	s := some()
	for _, c := range []struct {
		at   int
		data string
		size int
		runs []api.Run
	}{
		{0, "x", 15, []api.Run{run(0, "xab"), run(9, "cde")}},                                    // touches what is behind it
		{3, "x", 15, []api.Run{run(1, "abx"), run(9, "cde")}},                                    // touches what is ahead
		{4, "x", 15, []api.Run{run(1, "ab"), run(4, "x"), run(9, "cde")}},                        // touches nothing
		{2, "xyz", 15, []api.Run{run(1, "axyz"), run(9, "cde")}},                                 // over a part
		{1, "xy", 15, []api.Run{run(1, "xy"), run(9, "cde")}},                                    // over a whole run
		{10, "x", 15, []api.Run{run(1, "ab"), run(9, "cxe")}},                                    // within one
		{2, "0123456", 15, []api.Run{run(1, "a0123456cde")}},                                     // joins two
		{0, bytes(20), 20, []api.Run{run(0, bytes(20))}},                                         // over all
		{12, "xyz", 15, []api.Run{run(1, "ab"), run(9, "cdexyz")}},                               // up to the size
		{13, "xyz", 16, []api.Run{run(1, "ab"), run(9, "cde"), run(13, "xyz")}},                  // over it
		{15, "x", 16, []api.Run{run(1, "ab"), run(9, "cde"), run(15, "x")}},                      // from it on
		{40, "\x00", 41, []api.Run{run(1, "ab"), run(9, "cde"), run(40, "\x00")}},                // behind it, a byte 0
		{9, "\x00\x00\x00", 15, []api.Run{run(1, "ab"), run(9, "\x00\x00\x00")}},                 // bytes 0 are bytes
		{1000000, "far", 1000003, append(s.Inodes[2].Runs, run(1000000, "far"))},                 // far behind it
		{100, bytes(512), 612, append(slices.Clip(some().Inodes[2].Runs), run(100, bytes(512)))}, // MaxWrite bytes
	} {
		x := file(3, 2, c.size, now, c.runs...)
		want(t, s, 0, write(fileB, c.at, c.data), api.Reply{Attr: x.Attr}, inode(2, x))
	}
	x := file(2, 0, 5, now, run(0, "xyzab"))
	want(t, s, 9, write(orphan, 3, "ab"), api.Reply{Attr: x.Attr}, inode(5, x))
}

func TestWriteEmpty(t *testing.T) {
	s := some()
	for _, h := range []api.Handle{fileB, orphan, fileG} {
		for _, at := range []int{0, 1, 3, 15, 16, 5000, api.MaxSize - 1, api.MaxSize} {
			// Neither Size nor the stamp is another one.
			want(t, s, 0, write(h, at, ""), api.Reply{Attr: s.Inodes[h.No].Attr})
		}
		for _, at := range []int{api.MaxSize + 1, 1<<32 - 1} {
			fails(t, s, 0, write(h, at, ""), api.TooFar)
		}
	}
	fails(t, s, 0, write(dirE, 0, ""), api.Folder)
	want(t, full(api.MaxBytes), 0, write(at(1, 1), 0, ""), api.Reply{Attr: full(api.MaxBytes).Inodes[1].Attr})
}

func TestWriteTooFar(t *testing.T) {
	s := some()
	for _, n := range []int{api.MaxWrite + 1, api.MaxWrite + 2, 1024} {
		for _, at := range []int{0, 9, api.MaxSize - n, api.MaxSize, 1<<32 - 1} {
			fails(t, s, 0, write(fileB, at, bytes(n)), api.TooFar)
		}
	}
	for _, n := range []int{1, 2, api.MaxWrite - 1, api.MaxWrite} {
		x := file(1, 1, api.MaxSize, now, run(api.MaxSize-n, bytes(n)))
		want(t, s, 0, write(fileG, api.MaxSize-n, bytes(n)), api.Reply{Attr: x.Attr}, inode(7, x))
		x = file(1, 1, api.MaxSize-1, now, run(api.MaxSize-n-1, bytes(n)))
		want(t, s, 0, write(fileG, api.MaxSize-n-1, bytes(n)), api.Reply{Attr: x.Attr}, inode(7, x))
		for _, at := range []int{api.MaxSize - n + 1, api.MaxSize, api.MaxSize + 1, 1<<32 - 1} {
			fails(t, s, 0, write(fileG, at, bytes(n)), api.TooFar)
			fails(t, full(api.MaxBytes), 0, write(root, at, bytes(n)), api.Folder)
			fails(t, full(api.MaxBytes), 0, write(api.Handle{No: 1, Gen: 1}, at, bytes(n)), api.TooFar)
		}
	}
	fails(t, full(api.MaxBytes), 0, write(at(1, 1), 9, bytes(513)), api.TooFar)
	fails(t, s, 0, write(dirE, 0, bytes(513)), api.Folder)
	fails(t, s, 0, write(dirE, api.MaxSize, "x"), api.Folder)
}

// TestWriteRoom: what counts are the bytes that are there behind the write, of all files.
func TestWriteRoom(t *testing.T) {
	// full's first file has 5000 bytes from 1 on, its second one has the others, from 2 on.
	a, b := at(1, 1), at(2, 1)
	for _, n := range []int{1, 2, api.MaxWrite - 1, api.MaxWrite} {
		s := full(api.MaxBytes - n)
		try(t, s, 0, write(a, 6000, bytes(n)), api.OK)
		try(t, s, 0, write(b, 6000, bytes(n)), api.OK)
		try(t, s, 0, write(a, 6000, bytes(n-1)), api.OK)
		for _, h := range []api.Handle{a, b} {
			fails(t, full(api.MaxBytes-n+1), 0, write(h, 6000, bytes(n)), api.NoRoom)
			fails(t, full(api.MaxBytes), 0, write(h, 6000, bytes(n)), api.NoRoom)
		}
		// Bytes that are laid over bytes are no more; one that is not over one is.
		s = full(api.MaxBytes)
		try(t, s, 0, write(a, 1, bytes(n)), api.OK)
		try(t, s, 0, write(a, 5001-n, bytes(n)), api.OK)
		fails(t, s, 0, write(a, 0, bytes(n)), api.NoRoom)
		fails(t, s, 0, write(a, 5002-n, bytes(n)), api.NoRoom)
		try(t, full(api.MaxBytes-1), 0, write(a, 0, bytes(n)), api.OK)
		try(t, full(api.MaxBytes-1), 0, write(a, 5002-n, bytes(n)), api.OK)
	}
	// What was cut, and what was dropped, is room again.
	s, _ := try(t, full(api.MaxBytes), 0, cut(a, 5000), api.OK)
	fails(t, s, 0, write(b, 6000, "xy"), api.NoRoom)
	s, _ = try(t, s, 0, write(b, 6000, "x"), api.OK)
	fails(t, s, 0, write(b, 7000, "x"), api.NoRoom)
	s, _ = try(t, s, 0, unlink(root, "n0"), api.OK)
	try(t, s, 0, write(b, 7000, bytes(512)), api.OK)
	// A file without a name counts as well.
	s, _ = try(t, full(api.MaxBytes), 0, openCall(a), api.OK)
	s, _ = try(t, s, 0, unlink(root, "n0"), api.OK)
	fails(t, s, 0, write(b, 6000, "x"), api.NoRoom)
	fails(t, s, 0, write(a, 6000, "x"), api.NoRoom)
}

func TestCut(t *testing.T) {
	s := some()
	for _, c := range []struct {
		size int
		runs []api.Run
	}{
		{0, nil}, {1, nil}, {2, []api.Run{run(1, "a")}}, {3, []api.Run{run(1, "ab")}}, {9, []api.Run{run(1, "ab")}}, {10, []api.Run{run(1, "ab"), run(9, "c")}},
		{12, s.Inodes[2].Runs}, {14, s.Inodes[2].Runs}, {15, s.Inodes[2].Runs}, {16, s.Inodes[2].Runs}, {9999, s.Inodes[2].Runs}, {api.MaxSize - 1, s.Inodes[2].Runs}, {api.MaxSize, s.Inodes[2].Runs},
	} {
		x := file(3, 2, c.size, now, c.runs...)
		want(t, s, 0, cut(fileB, c.size), api.Reply{Attr: x.Attr}, inode(2, x))
	}
	x := file(2, 0, 1, now, run(0, "x"))
	want(t, s, 0, cut(orphan, 1), api.Reply{Attr: x.Attr}, inode(5, x))
	for _, size := range []int{api.MaxSize + 1, api.MaxSize + 2, 1<<32 - 1} {
		fails(t, s, 0, cut(fileB, size), api.TooFar)
		fails(t, s, 0, cut(dirE, size), api.Folder)
	}
	fails(t, s, 0, cut(root, 0), api.Folder)
	// What was cut away is 0 when it is there again.
	s, _ = try(t, s, 0, cut(fileB, 2), api.OK)
	s, _ = try(t, s, 0, cut(fileB, 12), api.OK)
	want(t, s, 0, read(fileB, 0, 99), api.Reply{Data: "\x00a" + strings.Repeat("\x00", 10)})
}

// 15.2: lists

func TestList(t *testing.T) {
	// 50 names with the cookies 1, 3, 5 and so on; those with the others are gone.
	s := links(50)
	names := s.Inodes[0].Entries
	for _, at := range []int{0, 1, 2, 3, 50, 97, 98, 99, 100, 101, 1<<32 - 1} {
		for _, c := range [][2]int{{0, 1}, {1, 1}, {2, 2}, {49, 49}, {63, 63}, {64, 64}, {65, 64}, {65535, 64}} {
			i := min((at+1)/2, 50)
			r := api.Reply{Entries: names[i:min(i+c[1], 50)]}
			if len(r.Entries) == 0 {
				r.Entries = nil
			}
			want(t, s, 0, list(root, at, c[0]), r)
		}
	}
	want(t, some(), 0, list(dirE, 0, 64), api.Reply{})
	want(t, some(), 0, list(dirA, 1, 64), api.Reply{Entries: some().Inodes[1].Entries[1:]})
	fails(t, some(), 0, list(fileB, 0, 1), api.NoFolder)
	fails(t, some(), 0, list(orphan, 1<<32-1, 65535), api.NoFolder)
}

// TestListLong: no page has more than 64 entries.
func TestListLong(t *testing.T) {
	s, _ := try(t, links(api.MaxLinks), 0, mk(root, "x"), api.OK)
	s, _ = try(t, s, 0, mkdir(root, "y"), api.OK)
	names := s.Inodes[0].Entries
	want(t, s, 0, list(root, 0, 63), api.Reply{Entries: names[:63]})
	for _, n := range []int{64, 65, 66, 1000, 65535} {
		want(t, s, 0, list(root, 0, n), api.Reply{Entries: names[:64]})
		want(t, s, 0, list(root, names[0].Cookie, n), api.Reply{Entries: names[1:65]})
		want(t, s, 0, list(root, names[1].Cookie, n), api.Reply{Entries: names[2:]})
	}
}

// TestListPages: page by page, while names come and go, each that stays is told once.
func TestListPages(t *testing.T) {
	s := links(api.MaxLinks)
	told := map[string]int{}
	cookie, gone := 0, 0
	for {
		x, r := try(t, s, 0, list(root, cookie, 7), api.OK)
		if len(r.Entries) == 0 {
			break
		}
		for _, y := range r.Entries {
			told[y.Name]++
			cookie = y.Cookie
		}
		// Names with even numbers go, and come again behind all others.
		if gone < 20 {
			name := "n" + strconv.Itoa(gone)
			x, _ = try(t, x, 0, unlink(root, name), api.OK)
			x, _ = try(t, x, 0, mk(root, name), api.OK)
			gone += 2
		}
		s = x
	}
	for i := range api.MaxLinks {
		name := "n" + strconv.Itoa(i)
		if stays := i%2 == 1 || i >= gone; stays && told[name] != 1 {
			t.Errorf("%s was told %d times", name, told[name])
		}
	}
	if gone != 20 {
		t.Errorf("%d names went", gone/2)
	}
}

// 15.2: open files

func TestOpen(t *testing.T) {
	s := some()
	b, o, b2 := s.Opens[0], s.Opens[1], s.Opens[2]
	want(t, s, 9, openCall(fileG), api.Reply{N: 2}, opened(b, o, open(2, 9, fileG), b2))
	want(t, s, 5, openCall(fileB), api.Reply{N: 2}, opened(b, o, open(2, 5, fileB), b2))
	want(t, s, 0, openCall(orphan), api.Reply{N: 2}, opened(b, o, open(2, 0, orphan), b2))
	want(t, changed(s, opened(o, b2)), 9, openCall(fileB), api.Reply{N: 0}, opened(open(0, 9, fileB), o, b2))
	for _, h := range []api.Handle{root, dirA, dirE} {
		fails(t, s, 5, openCall(h), api.Folder)
	}
	// Until none is free.
	for fd := 4; fd <= api.MaxOpens; fd++ {
		s, _ = try(t, s, fd, openCall(fileG), api.OK)
	}
	fails(t, s, 5, openCall(fileG), api.NoRoom)
	fails(t, s, 5, openCall(fileB), api.NoRoom)
	fails(t, s, 5, openCall(dirE), api.Folder)
	fails(t, s, 5, openCall(at(9, 9)), api.Stale)
	s, _ = try(t, s, 11, closeCall(10), api.OK)
	want(t, s, 0, openCall(fileB), api.Reply{N: 10}, func(s *api.State) { s.Opens = slices.Insert(s.Opens, 10, open(10, 0, fileB)) })
}

func TestClose(t *testing.T) {
	s := some()
	b, o, b2 := s.Opens[0], s.Opens[1], s.Opens[2]
	// The file has names.
	want(t, s, 5, closeCall(0), api.Reply{}, opened(o, b2))
	want(t, s, 7, closeCall(3), api.Reply{}, opened(b, o))
	// It has none, and is held by none any more.
	want(t, s, 5, closeCall(1), api.Reply{}, opened(b, b2), inode(5, free(2)))
	// It has none, and another one holds it.
	x := changed(s, opened(b, o, b2, open(4, 9, orphan)))
	want(t, x, 5, closeCall(1), api.Reply{}, opened(b, b2, open(4, 9, orphan)))
	for _, c := range [][2]int{{7, 0}, {7, 1}, {5, 3}, {0, 0}, {5, 2}, {5, 4}, {5, 15}, {5, 16}, {5, 65535}, {api.MaxBig, 3}} {
		fails(t, s, c[0], closeCall(c[1]), api.NotOpen)
	}
}
