package nfs

import (
	"maps"
	"slices"

	"sexton/api"
	"sexton/ask"
	"sexton/folder"
	"sexton/opens"
	"sexton/space"
)

// The chapter's words once more, of a state that is written another way.

// node is an inode, a file's bytes by their places; and the runs that these are known to be, till a byte is changed.
type node struct {
	gen     int
	attr    api.Attr
	bytes   map[int]byte
	known   []api.Run
	entries []api.Entry
	next    int
}

// model is a state, open files by their numbers.
type model struct {
	nodes []*node
	opens map[int]api.Open
	seats []api.Seat
	done  int
}

// load is the model of a state.
func load(s api.State) *model {
	m := &model{opens: map[int]api.Open{}, seats: s.Seats, done: s.Done}
	for _, x := range s.Inodes {
		n := &node{gen: x.Gen, attr: x.Attr, bytes: map[int]byte{}, entries: slices.Clone(x.Entries), next: x.Next}
		for _, r := range x.Runs {
			n.write(r.At, r.Data)
		}
		n.known = x.Runs
		m.nodes = append(m.nodes, n)
	}
	for _, x := range s.Opens {
		m.opens[x.Fd] = x
	}
	return m
}

// state is what a model is of.
func (m *model) state() api.State {
	s := api.State{Seats: m.seats, Done: m.done}
	for _, n := range m.nodes {
		s.Inodes = append(s.Inodes, api.Inode{Gen: n.gen, Attr: n.attr, Runs: n.runs(), Entries: n.entries, Next: n.next})
	}
	for fd := range api.MaxOpens {
		if x, ok := m.opens[fd]; ok {
			s.Opens = append(s.Opens, x)
		}
	}
	return s
}

func (n *node) write(at int, data string) {
	n.known = nil
	for i := range len(data) {
		n.bytes[at+i] = data[i]
	}
}

func (n *node) cut(size int) {
	n.known = nil
	maps.DeleteFunc(n.bytes, func(p int, _ byte) bool { return p >= size })
}

// runs are a node's bytes, those beside each other in one run.
func (n *node) runs() []api.Run {
	if n.known != nil {
		return n.known
	}
	var data []byte
	places := slices.Sorted(maps.Keys(n.bytes))
	for i, p := range places {
		data = append(data, n.bytes[p])
		if i+1 == len(places) || places[i+1] != p+1 {
			n.known = append(n.known, run(p+1-len(data), string(data)))
			data = nil
		}
	}
	return n.known
}

// at is what a handle names; a free node, if it names none.
func (m *model) at(h api.Handle) *node {
	if h.No < 0 || h.No >= len(m.nodes) || m.nodes[h.No].gen != h.Gen {
		return &node{}
	}
	return m.nodes[h.No]
}

// lookup is what a name names, and whether it is there.
func (m *model) lookup(dir api.Handle, name string) (api.Handle, bool) {
	for _, x := range m.at(dir).entries {
		if x.Name == name {
			return x.To, true
		}
	}
	return api.Handle{}, false
}

// below tells whether to is the folder h, or below it.
func (m *model) below(h, to api.Handle) bool {
	if h == to {
		return true
	}
	for _, x := range m.at(h).entries {
		if m.at(x.To).attr.Kind == api.KindDir && m.below(x.To, to) {
			return true
		}
	}
	return false
}

// least is the number of what is made next; MaxInodes, if there is no room.
func (m *model) least() int {
	for no, n := range m.nodes {
		if n.attr.Kind == api.KindFree && n.gen < api.MaxBig {
			return no
		}
	}
	return len(m.nodes)
}

// total is how many bytes all files would have behind a write.
func (m *model) total(n *node, at int, data string) int {
	sum := 0
	for _, x := range m.nodes {
		sum += len(x.bytes)
	}
	for i := range len(data) {
		if _, there := n.bytes[at+i]; !there {
			sum++
		}
	}
	return sum
}

// fault is what is wrong with a right call; of several things the one that the chapter names first.
func (m *model) fault(client int, c api.Call) api.Errno {
	first := api.OK
	say := func(e api.Errno, told bool) {
		if told && first == api.OK {
			first = e
		}
	}
	x, y := m.at(c.H), m.at(c.H2)
	stale := func(x *node) { say(api.Stale, x.attr.Kind == api.KindFree) }
	isFile := func(x *node) { stale(x); say(api.Folder, x.attr.Kind == api.KindDir) }
	isDir := func(x *node) { stale(x); say(api.NoFolder, x.attr.Kind == api.KindFile) }
	isName := func(s string) { say(api.BadName, folder.Name(s) != api.OK) }
	named, there := m.lookup(c.H, c.Name)
	switch c.Kind {
	case api.CallAttr:
		stale(x)
	case api.CallLook:
		isDir(x)
		isName(c.Name)
		say(api.NotThere, !there)
	case api.CallMake, api.CallFolder:
		isDir(x)
		isName(c.Name)
		say(api.Taken, there)
		say(api.NoRoom, m.least() == api.MaxInodes || x.next == api.MaxBig)
	case api.CallRead:
		isFile(x)
	case api.CallWrite:
		isFile(x)
		say(api.TooFar, len(c.Data) > api.MaxWrite || c.At+len(c.Data) > api.MaxSize)
		say(api.NoRoom, m.total(x, c.At, c.Data) > api.MaxBytes)
	case api.CallCut:
		isFile(x)
		say(api.TooFar, c.At > api.MaxSize)
	case api.CallLink:
		isFile(x)
		isDir(y)
		isName(c.Name)
		_, taken := m.lookup(c.H2, c.Name)
		say(api.Taken, taken)
		say(api.NoRoom, x.attr.Links == api.MaxLinks || y.next == api.MaxBig)
	case api.CallUnlink:
		isDir(x)
		isName(c.Name)
		say(api.NotThere, !there)
		say(api.Folder, m.at(named).attr.Kind == api.KindDir)
	case api.CallRmdir:
		isDir(x)
		isName(c.Name)
		say(api.NotThere, !there)
		say(api.NoFolder, m.at(named).attr.Kind == api.KindFile)
		say(api.Occupied, len(m.at(named).entries) > 0)
	case api.CallRename:
		isDir(x)
		isName(c.Name)
		say(api.NotThere, !there)
		isDir(y)
		isName(c.Name2)
		say(api.Inside, there && m.below(named, c.H2))
		_, taken := m.lookup(c.H2, c.Name2)
		say(api.Taken, taken)
		say(api.NoRoom, y.next == api.MaxBig)
	case api.CallList:
		isDir(x)
	case api.CallOpen:
		isFile(x)
		say(api.NoRoom, len(m.opens) == api.MaxOpens)
	case api.CallClose:
		z, isOpen := m.opens[c.N]
		say(api.NotOpen, !isOpen || z.Client != client)
	}
	return first
}

// do does a call: the reply.
func (m *model) do(client int, c api.Call) api.Reply {
	m.done++
	if ask.Check(c) != api.OK {
		return api.Reply{E: api.BadCall}
	}
	if e := m.fault(client, c); e != api.OK {
		return api.Reply{E: e}
	}
	switch c.Kind {
	case api.CallRead, api.CallWrite, api.CallCut:
		return m.doBytes(m.at(c.H), c)
	case api.CallList, api.CallOpen, api.CallClose:
		return m.doNumbers(client, c)
	}
	return m.doNames(c)
}

func (m *model) doBytes(x *node, c api.Call) api.Reply {
	switch c.Kind {
	case api.CallRead:
		var data []byte
		for p := c.At; p < x.attr.Size && len(data) < min(c.N, api.MaxWrite); p++ {
			data = append(data, x.bytes[p])
		}
		return api.Reply{Data: string(data)}
	case api.CallWrite:
		if c.Data != "" {
			x.write(c.At, c.Data)
			x.attr.Size, x.attr.Stamp = max(x.attr.Size, c.At+len(c.Data)), m.done
		}
	case api.CallCut:
		x.cut(c.At)
		x.attr.Size, x.attr.Stamp = c.At, m.done
	}
	return api.Reply{Attr: x.attr}
}

func (m *model) doNumbers(client int, c api.Call) api.Reply {
	var r api.Reply
	switch c.Kind {
	case api.CallList:
		for _, x := range m.at(c.H).entries {
			if x.Cookie > c.At && len(r.Entries) < min(max(c.N, 1), 64) {
				r.Entries = append(r.Entries, x)
			}
		}
	case api.CallOpen:
		for _, there := m.opens[r.N]; there; _, there = m.opens[r.N] {
			r.N++
		}
		m.opens[r.N] = open(r.N, client, c.H)
	case api.CallClose:
		of := m.opens[c.N].Of
		delete(m.opens, c.N)
		m.forget(of)
	}
	return r
}

func (m *model) doNames(c api.Call) api.Reply {
	h, _ := m.lookup(c.H, c.Name)
	switch c.Kind {
	case api.CallLook:
		return api.Reply{H: h, Attr: m.at(h).attr}
	case api.CallMake, api.CallFolder:
		h = m.make(c.Kind - api.CallMake + api.KindFile)
		m.enter(c.H, c.Name, h)
		return api.Reply{H: h, Attr: m.at(h).attr}
	case api.CallLink:
		m.enter(c.H2, c.Name, c.H)
		m.relink(c.H, 1)
		return api.Reply{Attr: m.at(c.H).attr}
	case api.CallAttr:
		return api.Reply{Attr: m.at(c.H).attr}
	case api.CallUnlink:
		m.strike(c.H, c.Name)
		m.relink(h, -1)
		m.forget(h)
	case api.CallRmdir:
		m.strike(c.H, c.Name)
		m.nodes[h.No] = &node{gen: h.Gen}
	case api.CallRename:
		m.strike(c.H, c.Name)
		m.enter(c.H2, c.Name2, h)
	}
	return api.Reply{}
}

func (m *model) make(kind int) api.Handle {
	no, gen := m.least(), 1
	if no < len(m.nodes) {
		gen = m.nodes[no].gen + 1
	} else {
		m.nodes = append(m.nodes, nil)
	}
	m.nodes[no] = &node{gen: gen, attr: api.Attr{Kind: kind, Links: 1, Stamp: m.done}, bytes: map[int]byte{}}
	return at(no, gen)
}

func (m *model) enter(dir api.Handle, name string, to api.Handle) {
	d := m.at(dir)
	d.next++
	d.entries = append(d.entries, entry(name, d.next, to))
	d.attr.Size, d.attr.Stamp = d.attr.Size+1, m.done
}

func (m *model) strike(dir api.Handle, name string) {
	d := m.at(dir)
	d.entries = slices.DeleteFunc(d.entries, func(x api.Entry) bool { return x.Name == name })
	d.attr.Size, d.attr.Stamp = d.attr.Size-1, m.done
}

func (m *model) relink(h api.Handle, by int) {
	a := &m.at(h).attr
	a.Links, a.Stamp = a.Links+by, m.done
}

// held tells whether a file is open.
func (m *model) held(h api.Handle) bool {
	for _, x := range m.opens {
		if x.Of == h {
			return true
		}
	}
	return false
}

// forget drops a file, if nobody needs it.
func (m *model) forget(h api.Handle) {
	if m.at(h).attr.Links == 0 && !m.held(h) {
		m.nodes[h.No] = &node{gen: h.Gen}
	}
}

// isRight is Check, by the chapter's words one after another.
func isRight(s api.State) bool {
	if space.Check(s.Inodes) != api.OK || opens.Check(s.Opens) != api.OK || s.Done < 0 || s.Done > api.MaxBig {
		return false
	}
	held := map[api.Handle]int{}
	for _, x := range s.Opens {
		held[x.Of]++
	}
	total := 0
	for no, x := range s.Inodes {
		h := at(no, x.Gen)
		if x.Attr.Stamp > s.Done || x.Attr.Kind == api.KindFile && x.Attr.Links == 0 && held[h] == 0 {
			return false
		}
		if x.Attr.Kind == api.KindFile {
			delete(held, h)
		}
		for _, r := range x.Runs {
			total += len(r.Data)
		}
	}
	return len(held) == 0 && total <= api.MaxBytes
}
