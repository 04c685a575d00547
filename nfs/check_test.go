package nfs

import (
	"math"
	"strings"
	"testing"

	"sexton/api"
	"sexton/itab"
)

// upTo are n open files of fileG, with the numbers below n.
func upTo(n int) []api.Open {
	var l []api.Open
	for fd := range n {
		l = append(l, open(fd, fd%3, fileG))
	}
	return l
}

// rightStates are states that are right, those at the edges among them.
func rightStates() []api.State {
	l := []api.State{
		New(), {Inodes: itab.New(), Done: api.MaxBig}, some(), changed(some(), done(api.MaxBig)), crowded(),
		links(0), links(1), links(api.MaxLinks), full(1), full(api.MaxBytes - 1), full(api.MaxBytes),
		// A file without a name is held by one alone, by two, and by one of another client.
		changed(some(), opened(open(1, 5, orphan))), changed(some(), opened(open(0, 5, orphan), open(1, 5, orphan))), changed(some(), opened(open(15, api.MaxBig, orphan))),
		// A Stamp is as great as Done.
		changed(New(), stamp(0, 5), done(5)), changed(New(), stamp(0, api.MaxBig), done(api.MaxBig)), changed(some(), stamp(5, someDone)), changed(some(), stamp(6, someDone)),
		changed(some(), opened(append(upTo(api.MaxOpens-1), open(api.MaxOpens-1, 0, orphan))...)),
		// Bytes up to MaxBytes, the last of them in a file without a name; sizes do not count.
		changed(some(), inode(7, file(1, 1, 8184, 0, run(0, bytes(api.MaxBytes-8))))),
		changed(some(), inode(7, file(1, 1, api.MaxSize, 0)), inode(5, file(2, 0, api.MaxSize, 0, run(api.MaxSize-8187, bytes(8187))))),
	}
	for _, seats := range [][]api.Seat{{{Client: -1}}, {{}, {}}, make([]api.Seat, 99), {{Reply: strings.Repeat("r", 9999)}}} {
		// Seats are not looked at.
		l = append(l, changed(some(), func(s *api.State) { s.Seats = seats }))
	}
	return l
}

// noSpaces are states whose inodes are no space.
func noSpaces() []api.State {
	l := []api.State{
		{}, {Done: 1}, {Inodes: []api.Inode{}}, {Inodes: []api.Inode{file(1, 0, 0, 0)}}, {Inodes: []api.Inode{free(1)}},
		changed(crowded(), inode(api.MaxInodes, free(1))),
		changed(some(), inode(8, dir(1, 0, 0))),
		changed(some(), inode(6, free(2))),
		changed(some(), inode(7, file(2, 1, 0, 0))),
		changed(some(), inode(7, file(1, 1, 2, 0, run(0, "abc")))),
		changed(some(), inode(7, file(1, 1, 2, 0, run(0, "a"), run(1, "b")))),
		changed(some(), inode(7, file(1, 1, api.MaxSize+1, 0))),
		changed(some(), inode(6, dir(2, 0, 4, entry("up", 1, root)))),
		changed(some(), inode(6, dir(2, 0, 4, entry("c", 1, dirC)))),
		changed(some(), inode(6, dir(2, 0, 0, entry("g", 1, fileG))), attrs(7, func(a *api.Attr) { a.Links = 2 })),
		changed(links(api.MaxLinks+1), done(200)),
	}
	for no, f := range []func(*api.Attr){
		0: func(a *api.Attr) { a.Size++ }, 1: func(a *api.Attr) { a.Links = 2 }, 2: func(a *api.Attr) { a.Links++ }, 3: func(a *api.Attr) { a.Size-- },
		4: func(a *api.Attr) { a.Links = 1 }, 5: func(a *api.Attr) { a.Links = 1 }, 6: func(a *api.Attr) { a.Stamp = -1 }, 7: func(a *api.Attr) { a.Kind = 3 },
	} {
		l = append(l, changed(some(), attrs(no, f)))
	}
	return l
}

// wrongOpens are states whose inodes are a space, and whose open files are not right, or not of files.
func wrongOpens() []api.State {
	held := open(0, 5, orphan) // so that somebody needs that file
	var l []api.State
	for _, x := range []api.Open{
		open(0, 5, fileG), open(-1, 5, fileG), open(api.MaxOpens, 5, fileG), open(math.MaxInt, 5, fileG), open(math.MinInt, 5, fileG),
		open(1, -1, fileG), open(1, api.MaxBig+1, fileG), open(1, math.MinInt, fileG), open(1, math.MaxInt, fileG),
		// Of what is no handle of any inode.
		open(1, 5, api.Handle{}), open(1, 5, at(-1, 1)), open(1, 5, at(api.MaxInodes, 1)), open(1, 5, at(math.MaxInt, 1)), open(1, 5, at(math.MinInt, 1)), open(1, 5, at(7, 0)), open(1, 5, at(7, -1)), open(1, 5, at(7, api.MaxBig+1)),
		// Of a folder.
		open(1, 5, root), open(1, 5, dirA), open(1, 5, dirC), open(1, 5, dirE),
		// Of what is free, of a number that there is not, of another generation.
		open(1, 5, at(4, 7)), open(1, 5, at(4, 8)), open(1, 5, at(8, 1)), open(1, 5, at(23, 1)), open(1, 5, at(7, 2)), open(1, 5, at(2, 2)), open(1, 5, at(2, 4)), open(1, 5, at(2, api.MaxBig)), open(1, 5, at(5, 1)),
	} {
		l = append(l, changed(some(), opened(held, x)))
	}
	return append(l,
		changed(some(), opened(open(1, 5, orphan), open(0, 5, fileG))), changed(some(), opened(open(2, 5, orphan), open(2, 7, fileG))),
		changed(some(), opened(append(upTo(api.MaxOpens), open(api.MaxOpens-1, 5, orphan))...)), changed(some(), opened(append(upTo(api.MaxOpens), open(api.MaxOpens, 5, orphan))...)),
		changed(New(), opened(open(0, 5, root))), changed(New(), opened(open(0, 5, at(1, 1)))),
	)
}

// wrongStates are states that are not right, each for one reason.
func wrongStates() []api.State {
	l := append(noSpaces(), wrongOpens()...)
	// A file without a name is held by none.
	l = append(l, changed(some(), opened()), changed(some(), opened(open(0, 5, fileB), open(3, 7, fileB))), changed(links(0), opened()), changed(some(), inode(8, file(1, 0, 0, 0))))
	// All runs have a byte too many.
	l = append(l, full(api.MaxBytes+1), full(3*api.MaxBytes), changed(some(), inode(7, file(1, 1, 8185, 0, run(0, bytes(api.MaxBytes-7))))),
		changed(some(), inode(5, file(2, 0, api.MaxSize, 0, run(0, bytes(4000)), run(9000, bytes(4188))))))
	for _, n := range []int{math.MinInt, -2, -1, api.MaxBig + 1, math.MaxInt} {
		l = append(l, changed(New(), done(n)), changed(some(), done(n)))
	}
	// A Stamp is greater than Done: of the root, a folder, a file, one without a name.
	for _, no := range []int{0, 1, 2, 5, 6, 7} {
		l = append(l, changed(some(), stamp(no, now)), changed(some(), stamp(no, api.MaxBig)))
	}
	return append(l, changed(some(), done(someDone-1)), changed(some(), done(0)), changed(New(), stamp(0, 1)), changed(New(), stamp(0, api.MaxBig), done(api.MaxBig-1)))
}

// 15.1

func TestNew(t *testing.T) {
	w := api.State{Inodes: []api.Inode{dir(1, 0, 0)}}
	s := New()
	if !same(s, w) || Check(s) != api.OK {
		t.Errorf("New: %v", s)
	}
	s.Inodes[0] = free(-7)
	if !same(New(), w) {
		t.Errorf("New behind a change of what was told: %v", New())
	}
}

func TestCheck(t *testing.T) {
	for i, s := range rightStates() {
		if e := Check(s); e != api.OK || !isRight(s) {
			t.Errorf("right state %d: %v, %.1000v", i, e, s)
		}
	}
	for i, s := range wrongStates() {
		if e := Check(s); e != api.ErrForm || isRight(s) {
			t.Errorf("wrong state %d: %v, %.1000v", i, e, s)
		}
	}
}
