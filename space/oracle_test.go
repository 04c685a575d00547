package space

import (
	"slices"

	"sexton/api"
	"sexton/folder"
	"sexton/itab"
)

// Kinds of calls.
const (
	doLook = iota
	doMake
	doLink
	doUnlink
	doRmdir
	doRename
)

// call is a call of this layer, with the arguments that its kind has: h is Link's, to and name2 are Rename's, kind is Make's.
type call struct {
	do          int
	h, dir, to  api.Handle
	name, name2 string
	kind, stamp int
}

func look(dir api.Handle, name string) call { return call{do: doLook, dir: dir, name: name} }

func mk(dir api.Handle, name string, kind, stamp int) call {
	return call{do: doMake, dir: dir, name: name, kind: kind, stamp: stamp}
}

func link(h, dir api.Handle, name string, stamp int) call {
	return call{do: doLink, h: h, dir: dir, name: name, stamp: stamp}
}

func unlink(dir api.Handle, name string, stamp int) call {
	return call{do: doUnlink, dir: dir, name: name, stamp: stamp}
}

func rmdir(dir api.Handle, name string, stamp int) call {
	return call{do: doRmdir, dir: dir, name: name, stamp: stamp}
}

func rename(from api.Handle, name string, to api.Handle, name2 string, stamp int) call {
	return call{do: doRename, dir: from, name: name, to: to, name2: name2, stamp: stamp}
}

// run is what this layer answers.
func (c call) run(l []api.Inode) (r result) {
	switch c.do {
	case doLook:
		r.h, r.e = Look(l, c.dir, c.name)
	case doMake:
		r.l, r.h, r.e = Make(l, c.dir, c.name, c.kind, c.stamp)
	case doLink:
		r.l, r.e = Link(l, c.h, c.dir, c.name, c.stamp)
	case doUnlink:
		r.l, r.h, r.e = Unlink(l, c.dir, c.name, c.stamp)
	case doRmdir:
		r.l, r.e = Rmdir(l, c.dir, c.name, c.stamp)
	case doRename:
		r.l, r.e = Rename(l, c.dir, c.name, c.to, c.name2, c.stamp)
	}
	return r
}

// faults are what may be wrong with a call, in the chapter's order; what is right of it is OK.
func (c call) faults(l []api.Inode) []api.Errno {
	if !isSpace(l) {
		return []api.Errno{api.ErrForm}
	}
	var out []api.Errno
	say := func(e api.Errno, told bool) {
		if told {
			out = append(out, e)
		}
	}
	folderOf := func(h api.Handle) {
		say(api.Stale, !names(l, h))
		say(api.NoFolder, names(l, h) && kindOf(l, h) != api.KindDir)
	}
	badName := func(s string) { say(api.BadName, folder.Name(s) != api.OK) }
	named, there := lookup(l, c.dir, c.name)
	say(api.ErrArg, c.do != doLook && (c.stamp < 0 || c.stamp > api.MaxBig || c.stamp < latest(l)))
	switch c.do {
	case doMake:
		say(api.ErrArg, c.kind != api.KindFile && c.kind != api.KindDir)
	case doLink:
		say(api.Stale, !names(l, c.h))
		say(api.Folder, kindOf(l, c.h) == api.KindDir)
	}
	folderOf(c.dir)
	badName(c.name)
	switch c.do {
	case doLook:
		say(api.NotThere, !there)
	case doMake:
		say(api.Taken, there)
		say(api.NoRoom, least(l) == api.MaxInodes || names(l, c.dir) && l[c.dir.No].Next == api.MaxBig)
	case doLink:
		say(api.Taken, there)
		say(api.NoRoom, names(l, c.h) && l[c.h.No].Attr.Links == api.MaxLinks || names(l, c.dir) && l[c.dir.No].Next == api.MaxBig)
	case doUnlink:
		say(api.NotThere, !there)
		say(api.Folder, kindOf(l, named) == api.KindDir)
	case doRmdir:
		say(api.NotThere, !there)
		say(api.NoFolder, kindOf(l, named) == api.KindFile)
		say(api.Occupied, there && len(l[named.No].Entries) > 0)
	case doRename:
		say(api.NotThere, !there)
		folderOf(c.to)
		badName(c.name2)
		say(api.Inside, there && slices.Contains(upward(l, c.to), named))
		_, taken := lookup(l, c.to, c.name2)
		say(api.Taken, taken)
		say(api.NoRoom, names(l, c.to) && l[c.to.No].Next == api.MaxBig)
	}
	return out
}

// expect is what this layer should answer.
func (c call) expect(l []api.Inode) (r result) {
	if faults := c.faults(l); len(faults) > 0 {
		return result{e: faults[0]}
	}
	r.h, _ = lookup(l, c.dir, c.name)
	if c.do == doLook {
		return r
	}
	r.l = plain(l)
	switch c.do {
	case doMake:
		r.h = r.make(c.kind, c.stamp)
		r.enter(c.dir, c.name, r.h, c.stamp)
		return r
	case doUnlink:
		r.strike(c.dir, c.name, c.stamp)
		r.relink(r.h, -1, c.stamp)
		return r
	case doLink:
		r.enter(c.dir, c.name, c.h, c.stamp)
		r.relink(c.h, 1, c.stamp)
	case doRmdir:
		r.strike(c.dir, c.name, c.stamp)
		r.l[r.h.No] = free(r.h.Gen)
	case doRename:
		r.strike(c.dir, c.name, c.stamp)
		r.enter(c.to, c.name2, r.h, c.stamp)
	}
	r.h = api.Handle{}
	return r
}

func (r *result) make(kind, stamp int) api.Handle {
	no := least(r.l)
	if no == len(r.l) {
		r.l = append(r.l, api.Inode{})
	}
	r.l[no] = made(r.l[no].Gen+1, kind, stamp)
	return at(no, r.l[no].Gen)
}

func (r *result) enter(dir api.Handle, name string, to api.Handle, stamp int) {
	d := &r.l[dir.No]
	d.Next++
	d.Entries = append(d.Entries, entry(name, d.Next, to))
	d.Attr.Size, d.Attr.Stamp = d.Attr.Size+1, stamp
}

func (r *result) strike(dir api.Handle, name string, stamp int) {
	d := &r.l[dir.No]
	d.Entries = slices.DeleteFunc(d.Entries, func(x api.Entry) bool { return x.Name == name })
	d.Attr.Size, d.Attr.Stamp = d.Attr.Size-1, stamp
}

func (r *result) relink(h api.Handle, by, stamp int) {
	a := &r.l[h.No].Attr
	a.Links, a.Stamp = a.Links+by, stamp
}

// names tells whether a handle names an inode.
func names(l []api.Inode, h api.Handle) bool { return kindOf(l, h) != api.KindFree }

// kindOf is the kind of what a handle names; free, if it names none.
func kindOf(l []api.Inode, h api.Handle) int {
	if h.No < 0 || h.No >= len(l) || l[h.No].Gen != h.Gen {
		return api.KindFree
	}
	return l[h.No].Attr.Kind
}

func latest(l []api.Inode) int {
	n := 0
	for _, x := range l {
		n = max(n, x.Attr.Stamp)
	}
	return n
}

// least is the number of what is made next; MaxInodes, if there is no room.
func least(l []api.Inode) int {
	for no, x := range l {
		if x.Attr.Kind == api.KindFree && x.Gen < api.MaxBig {
			return no
		}
	}
	return len(l)
}

func lookup(l []api.Inode, dir api.Handle, name string) (api.Handle, bool) {
	if names(l, dir) {
		for _, x := range l[dir.No].Entries {
			if x.Name == name {
				return x.To, true
			}
		}
	}
	return api.Handle{}, false
}

// upward are a folder and all that it is below, of a space.
func upward(l []api.Inode, h api.Handle) []api.Handle {
	out := []api.Handle{h}
	for no, x := range l {
		if names(l, h) && slices.ContainsFunc(x.Entries, func(y api.Entry) bool { return y.To == h }) {
			out = append(out, upward(l, at(no, x.Gen))...)
		}
	}
	return out
}

// isSpace is Check, by the chapter's words one after another.
func isSpace(l []api.Inode) bool {
	if itab.Check(l) != api.OK {
		return false
	}
	named := make([]int, len(l))
	for _, x := range l {
		if x.Attr.Kind == api.KindDir && (folder.Check(folder.Dir{Entries: x.Entries, Next: x.Next}) != api.OK || x.Attr.Size != len(x.Entries)) {
			return false
		}
		for _, y := range x.Entries {
			if !names(l, y.To) {
				return false
			}
			named[y.To.No]++
		}
	}
	seen := reach(l)
	for no, x := range l {
		switch {
		case no == 0 && named[no] != 0:
			return false
		case no > 0 && x.Attr.Kind == api.KindDir && (named[no] != 1 || !seen[no]):
			return false
		case x.Attr.Kind == api.KindFile && named[no] != x.Attr.Links:
			return false
		}
	}
	return true
}

// reach tells which inodes are come to from the root by entries, each of which names one.
func reach(l []api.Inode) []bool {
	seen := make([]bool, len(l))
	seen[0] = true
	for range l {
		for no, x := range l {
			for _, y := range x.Entries {
				seen[y.To.No] = seen[y.To.No] || seen[no]
			}
		}
	}
	return seen
}

// pathsOf are the paths of a space, found upward from each name.
func pathsOf(l []api.Inode) []string {
	out := []string{}
	for no, x := range l {
		for _, y := range x.Entries {
			out = append(out, pathTo(l, at(no, x.Gen))+"/"+y.Name)
		}
	}
	slices.Sort(out)
	return append([]string{"/"}, out...)
}

// pathTo is the path of a folder; the root's is empty.
func pathTo(l []api.Inode, h api.Handle) string {
	for no, x := range l {
		for _, y := range x.Entries {
			if y.To == h {
				return pathTo(l, at(no, x.Gen)) + "/" + y.Name
			}
		}
	}
	return ""
}
