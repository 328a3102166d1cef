package dirty_test

import (
	"math"
	"slices"
	"testing"

	"casebook/api"
	"casebook/dirty"
	"casebook/line"
	"casebook/store"
)

// T1, as far as logs go: a chain of them, whose members read what is clean; that a lease is valid just at members is taken for granted here

// note is a message from a member to the next one: a request for a place, or how many are committed.
type note struct {
	epoch, to, at int
	q             api.Req
}

// act is what a client asked, and was told, if it was; behind is the greatest place that anyone was told ahead of that.
type act struct {
	q          api.Req
	behind, at int
	reply      api.Reply
	answered   bool
}

// chain is nodes from head to tail, which take what the one above them has, and commit what the tail has. Notes come whenever they come, in any order, often or never. Nodes are left out, and come back at the end with what the tail has.
type chain struct {
	unclean bool // nodes don't ask if it is clean
	open    bool // nodes read all that they have, committed or not
	out     bool // nodes that were left out go on
	hasty   bool // nodes come back with what is committed at the head
	t       *testing.T
	next    func(n int) int
	epoch   int
	nodes   []int
	left    []int
	lines   []*line.Line
	notes   []note
	acts    []act
	waits   [api.MaxClients]int // the place of each one's act behind which it waits, from 1 on
	seqs    [api.MaxClients]int
	refused int // how often a member had to pass on what is not clean
}

func chainOf(t *testing.T, n int, next func(n int) int) *chain {
	c := &chain{t: t, next: next}
	for node := range n {
		c.nodes = append(c.nodes, node)
		c.lines = append(c.lines, filled(t, 0))
	}
	return c
}

func (c *chain) line(place int) *line.Line { return c.lines[c.nodes[place]] }

func (c *chain) head() *line.Line { return c.line(0) }

func (c *chain) tail() *line.Line { return c.line(len(c.nodes) - 1) }

// reader is a member, or another node, if they go on.
func (c *chain) reader() *line.Line {
	if c.out && len(c.left) > 0 && c.next(2) == 0 {
		return c.lines[c.left[c.next(len(c.left))]]
	}
	return c.line(c.next(len(c.nodes)))
}

// last is the greatest place that anyone was told.
func (c *chain) last() int {
	most := 0
	for _, a := range c.acts {
		most = max(most, a.at)
	}
	return most
}

// ask has a client ask something, if it waits for nothing.
func (c *chain) ask(client int) {
	if c.waits[client] > 0 {
		return
	}
	q := random(c.next, 0)
	if c.next(2) == 0 {
		q = reads(q.Id)[c.next(4)]
	}
	c.seqs[client]++
	q.Client, q.Seq = client, c.seqs[client]
	c.acts = append(c.acts, act{q: q, behind: c.last()})
	c.waits[client] = len(c.acts)
}

// tell has a client told the answer that it waits for.
func (c *chain) tell(client, at int, reply api.Reply) {
	a := &c.acts[c.waits[client]-1]
	a.at, a.reply, a.answered = at, reply, true
	c.waits[client] = 0
}

// pass has a member tell the one below it of requests, and the one above it of what is committed.
func (c *chain) pass(place int) {
	l := c.line(place)
	if place+1 < len(c.nodes) {
		n := c.line(place + 1).Len()
		for k, q := range l.Since(n, 1+c.next(3)) {
			c.notes = append(c.notes, note{c.epoch, c.nodes[place+1], n + k + 1, q})
		}
	}
	if place > 0 {
		c.notes = append(c.notes, note{epoch: c.epoch, to: c.nodes[place-1], at: l.Committed()})
	}
}

// deliver has a note come, and maybe once more later.
func (c *chain) deliver(k int) {
	m := c.notes[k]
	if c.next(3) > 0 {
		c.notes = slices.Delete(c.notes, k, k+1)
	}
	if m.epoch != c.epoch {
		return
	}
	if l := c.lines[m.to]; m.q.Kind == 0 {
		l.Commit(min(m.at, l.Len())) // an old one is refused
	} else {
		l.Take(m.at, m.q)
	}
}

// write has what a client asked come to the head, or what it waits for be answered where it is committed.
func (c *chain) write(q api.Req) {
	c.head().Put(q)
	l := c.reader()
	if at, ok := l.Find(q.Client, q.Seq); ok {
		if reply, e := l.Reply(at); e == api.OK {
			c.tell(q.Client, at, reply)
		}
	}
}

// whole answers a log in which all is committed that another one has.
func (c *chain) whole(l *line.Line) *line.Line {
	return filled(c.t, l.Len(), l.Since(0, math.MaxInt)...)
}

// read has a member answer a client, if that is clean there.
func (c *chain) read(q api.Req) {
	l := c.reader()
	if c.open {
		l = c.whole(l)
	}
	reply, at, e := dirty.Read(l, q)
	if e == api.ErrState && c.unclean {
		reply, _ = l.Store().Ask(q)
		at, e = l.Committed(), api.OK
	}
	if e != api.OK {
		c.refused++
		return
	}
	c.tell(q.Client, at, reply)
}

// leave has a member be left out, if it is not the last one.
func (c *chain) leave(place int) {
	if len(c.nodes) > 1 {
		c.left = append(c.left, c.nodes[place])
		c.nodes = slices.Delete(c.nodes, place, place+1)
		c.epoch++
	}
}

// join has a node come back behind all.
func (c *chain) join() {
	if len(c.left) == 0 {
		return
	}
	node := c.left[0]
	c.lines[node] = c.whole(c.tail())
	if c.hasty {
		c.lines[node] = filled(c.t, 0, c.head().Since(0, c.head().Committed())...)
	}
	c.left = c.left[1:]
	c.nodes = append(c.nodes, node)
	c.epoch++
}

func (c *chain) step() {
	place, client := c.next(len(c.nodes)), c.next(api.MaxClients)
	switch c.next(7) {
	case 0:
		c.ask(client)
	case 1, 2:
		if c.waits[client] == 0 {
			return
		}
		if q := c.acts[c.waits[client]-1].q; q.Kind <= api.OpDelete {
			c.write(q)
		} else {
			c.read(q)
		}
	case 3:
		c.pass(place)
	case 4:
		c.tail().Commit(c.tail().Committed() + c.next(c.tail().Len()-c.tail().Committed()+1))
	default:
		if len(c.notes) > 0 {
			c.deliver(c.next(len(c.notes)))
		}
	}
	if len(c.notes) > 20 {
		c.notes = slices.Delete(c.notes, 0, c.next(10)) // lost
	}
}

// stands tells if each answer is what the log tells, in its order: what writes at its place, which is above that of its asking; what reads at the greater one of both.
func (c *chain) stands() bool {
	all := c.head().Since(0, math.MaxInt)
	s, replies := stores(c.t, all)
	for _, a := range c.acts {
		place := max(a.at, a.behind)
		switch {
		case !a.answered:
		case place > len(all):
			return false
		case a.q.Kind <= api.OpDelete:
			if a.at <= a.behind || all[a.at-1] != a.q || !sameReply(a.reply, replies[a.at-1]) {
				return false
			}
		default:
			if reply, _ := s[place].Ask(a.q); !sameReply(a.reply, reply) {
				return false
			}
		}
	}
	return true
}

// stores answers, of each beginning of a log, the store that it makes; and what each of its requests is told.
func stores(t *testing.T, all []api.Req) ([]*store.Store, []api.Reply) {
	t.Helper()
	var l []*store.Store
	var replies []api.Reply
	for n := range len(all) + 1 {
		s, _ := store.New(4)
		for at, q := range all[:n] {
			reply, e := s.Put(q)
			if e != api.OK {
				t.Fatalf("Put of %v: %d", q, e)
			}
			if at == n-1 {
				replies = append(replies, reply)
			}
		}
		l = append(l, s)
	}
	return l, replies
}

// result is what came of many scripts: how many were seen to be broken, how many reads were answered, how many of them at a place where that is not the last one told; how often one was passed on.
type result struct{ broken, read, early, refused int }

func (r *result) count(c *chain) {
	if !c.stands() {
		r.broken++
	}
	for _, a := range c.acts {
		if a.answered && a.q.Kind > api.OpDelete {
			r.read++
			if a.at < a.behind {
				r.early++
			}
		}
	}
	r.refused += c.refused
}

func scripts(t *testing.T, change func(c *chain)) result {
	t.Helper()
	next := numbers()
	var r result
	for script := range 300 {
		c := chainOf(t, 1+script%api.MaxNodes, next)
		change(c)
		for k := 1; k <= 1000; k++ {
			c.step()
			if k%100 == 0 {
				c.leave(next(len(c.nodes)))
			}
			if k%130 == 0 {
				c.join()
			}
		}
		r.count(c)
	}
	return r
}

func TestThereIsOneOrder(t *testing.T) {
	r := scripts(t, func(c *chain) {})
	if r.broken > 0 {
		t.Errorf("broken in %d scripts", r.broken)
	}
	if r.read < 5000 || r.early < 100 || r.refused < 1000 {
		t.Errorf("only %d reads, %d of them early; %d times passed on", r.read, r.early, r.refused)
	}
}

// What that leans on, without which it is seen to be broken by the same scripts.
func TestOneOrderLeansOnWhatIsClean(t *testing.T) {
	for name, change := range map[string]func(c *chain){
		"what is not clean is read":             func(c *chain) { c.unclean = true },
		"what is not committed is read":         func(c *chain) { c.open = true },
		"who was left out reads":                func(c *chain) { c.out = true },
		"who comes back lacks what others have": func(c *chain) { c.hasty = true },
	} {
		if r := scripts(t, change); r.broken == 0 {
			t.Errorf("%s: this finds nothing", name)
		}
	}
}

// A resource with an open write is read at the tail: whatever it has, all have.
func TestTheTailReadsAll(t *testing.T) {
	next := numbers()
	read, open := 0, 0
	for script := range 100 {
		c := chainOf(t, 2+script%4, next)
		for range 300 {
			c.step()
			c.tail().Commit(c.tail().Len())
			if got := dirty.Dirty(c.tail()); len(got) > 0 {
				t.Fatalf("the tail: %v", got)
			}
			for _, id := range dirty.Dirty(c.head()) {
				wantError(t, c.head(), reads(id)[0], api.ErrState)
				if _, at, e := dirty.Read(c.tail(), reads(id)[0]); at != c.tail().Len() || e != api.OK {
					t.Fatalf("the tail: %d, %d", at, e)
				}
				open++
			}
			read++
		}
	}
	if open < read/4 {
		t.Errorf("only %d of %d", open, read)
	}
}
