package line_test

import (
	"bytes"
	"fmt"
	"math"
	"slices"
	"strings"
	"testing"

	"casebook/api"
	"casebook/line"
)

// 18.3: who has the same requests at the same places tells the same

// seen answers all that a line tells.
func seen(l *line.Line) string {
	var w strings.Builder
	write := func(l ...int) {
		fmt.Fprintln(&w, l)
	}
	write(l.Len(), l.Committed())
	for _, q := range l.Since(0, math.MaxInt) {
		write(q.Client, q.Seq, q.Kind, q.Id, q.Match)
		place, _ := l.Find(q.Client, q.Seq)
		write(place)
	}
	for at := range l.Committed() {
		reply, e := l.Reply(at + 1)
		write(reply.Code, reply.Version, e)
	}
	for client := range api.MaxClients {
		write(l.Seq(client))
	}
	for id := range api.MaxId + 1 {
		write(l.Last(id))
	}
	w.Write(l.Store().Bytes())
	return w.String()
}

// right answers so many requests that stand, one behind the other.
func right(next func(n int) int, size int) []api.Req {
	var all []api.Req
	p := plain{}
	for len(all) < size {
		q := random(next, len(all))
		if _, e := p.put(q); e == api.OK {
			all = append(all, q)
		}
	}
	return all
}

// One Put all, others Took them: in pieces, from others that were told by it, with calls between that were refused, committed in other steps.
func TestTheSameAtTheSamePlacesTellsTheSame(t *testing.T) {
	next := numbers()
	for script := range 100 {
		all := right(next, 1+next(60))
		n := next(len(all) + 1)
		one, two, three := opened(t, 5), opened(t, 5), opened(t, 5)
		for _, q := range all {
			one.Put(q)
		}
		one.Commit(n)
		for two.Len() < len(all) {
			for k, q := range one.Since(two.Len(), 1+next(5)) {
				if e := two.Take(two.Len()+1, q); e != api.OK {
					t.Fatalf("Take of %d: %d", k, e)
				}
				two.Take(two.Len()+next(3), q) // an old one, wherever it comes
				two.Commit(min(n, two.Committed()+next(4)))
			}
		}
		two.Commit(n)
		for k, q := range two.Since(0, math.MaxInt) {
			three.Put(api.Req{Client: q.Client, Seq: q.Seq, Kind: api.OpRead, Id: q.Id})
			three.Commit(-1)
			if e := three.Take(k+1, q); e != api.OK {
				t.Fatalf("Take of %d: %d", k+1, e)
			}
		}
		for k := range n {
			three.Commit(k + 1)
			three.Store().Put(all[k])
		}
		if seen(one) != seen(two) || seen(two) != seen(three) {
			t.Fatalf("%d: of %d, %d committed: %q, %q, %q", script, len(all), n, seen(one), seen(two), seen(three))
		}
	}
}

// What stands behind, and how much of it is committed, changes nothing of what was told of the beginning.
func TestTheSameBeginningTellsTheSame(t *testing.T) {
	next := numbers()
	for range 100 {
		size := 1 + next(40)
		all := right(next, size+20)
		short, long := opened(t, 5), opened(t, 5)
		for _, q := range all[:size] {
			short.Put(q)
		}
		for _, q := range all {
			long.Put(q)
		}
		short.Commit(size)
		long.Commit(size)
		if !bytes.Equal(short.Store().Bytes(), long.Store().Bytes()) {
			t.Fatalf("%v: %x and %x", all, short.Store().Bytes(), long.Store().Bytes())
		}
		long.Commit(size + next(21))
		for k, q := range all[:size] {
			one, wrong := short.Reply(k + 1)
			two, e := long.Reply(k + 1)
			place, ok := long.Find(q.Client, q.Seq)
			if !sameReply(one, two) || wrong != api.OK || e != api.OK || place != k+1 || !ok {
				t.Fatalf("%d: %v, %d and %v, %d; %d", k+1, one, wrong, two, e, place)
			}
		}
	}
}

// Other requests, or the same ones at other places, tell otherwise.
func TestOthersTellOtherwise(t *testing.T) {
	logs := [][]api.Req{
		{},
		{create(0, 1, 3, "a")},
		{create(1, 1, 3, "a")},
		{create(0, 2, 3, "a")},
		{create(0, 1, 4, "a")},
		{create(0, 1, 3, "b")},
		{update(0, 1, 3, 0, "a")},
		{update(0, 1, 3, 1, "a")},
		{create(0, 1, 3, "a"), create(1, 1, 4, "b")},
		{create(1, 1, 4, "b"), create(0, 1, 3, "a")},
	}
	told := map[string][]api.Req{}
	for _, all := range logs {
		s := seen(filled(t, len(all), all...).l)
		if other, ok := told[s]; ok {
			t.Errorf("%v and %v tell the same", other, all)
		}
		told[s] = all
	}
}

// T2, T3, as far as logs go: a chain of them, without clocks

// note is a message from a node to another one: a request for a place, or how many are committed.
type note struct {
	epoch, to, at int
	q             api.Req
}

// answer is what a client was told.
type answer struct {
	q     api.Req
	at    int
	reply api.Reply
}

// chain is nodes from head to tail, which take what the one above them has, and commit what the tail has. Notes come whenever they come, in any order, often or never. Nodes die: the others go on as a chain of the next epoch.
type chain struct {
	early   bool // the head knows all that it has as committed
	renames bool // a client asks again as if it were another request
	blind   bool // nodes put what they are told wherever it comes
	deaf    bool // the head does not look if it has a request
	next    func(n int) int
	epoch   int
	nodes   []int
	lines   []*line.Line
	notes   []note
	seqs    [api.MaxClients]int
	open    [api.MaxClients]api.Req // of Kind 0: none
	asked   []api.Req
	told    []answer
	refused int // how often the head refused what came to it
}

func chainOf(t *testing.T, n int, next func(n int) int) *chain {
	t.Helper()
	c := &chain{next: next}
	for node := range n {
		c.nodes = append(c.nodes, node)
		c.lines = append(c.lines, opened(t, 5))
	}
	return c
}

func (c *chain) line(place int) *line.Line { return c.lines[c.nodes[place]] }

// ask has a client ask something, if it waits for nothing.
func (c *chain) ask(client int) {
	if c.open[client].Kind != 0 {
		return
	}
	q := random(c.next, 0)
	q.Client, q.Seq = client, c.seqs[client]+1
	if q.Kind == api.OpCreate || q.Kind == api.OpUpdate {
		q.Data = string([]byte{byte(client), byte(q.Seq >> 8), byte(q.Seq)}) // none is like another
	}
	if mayStand(q) {
		c.seqs[client] = q.Seq
		c.open[client] = q
		c.asked = append(c.asked, q)
	}
}

// come has a request come to the head, also one that was answered long ago.
func (c *chain) come(q api.Req) {
	if c.renames && c.open[q.Client].Data == q.Data && c.open[q.Client].Kind != 0 {
		c.seqs[q.Client]++
		q.Seq = c.seqs[q.Client]
		c.open[q.Client] = q
	}
	head := c.line(0)
	if _, ok := head.Find(q.Client, q.Seq); ok && !c.deaf {
		return
	}
	if _, e := head.Put(q); e != api.OK {
		c.refused++
	}
}

// tell has a node tell the one below it of a request, or the one above it of what is committed.
func (c *chain) tell(place int) {
	l := c.line(place)
	if place+1 < len(c.nodes) {
		n := c.next(l.Len() + 1)
		for k, q := range l.Since(n, 1+c.next(3)) {
			c.notes = append(c.notes, note{c.epoch, c.nodes[place+1], n + k + 1, q})
		}
	}
	if place > 0 {
		c.notes = append(c.notes, note{epoch: c.epoch, to: c.nodes[place-1], at: l.Committed()})
	}
}

// deliver has a note come, and maybe once more later.
func (c *chain) deliver(k int) {
	m := c.notes[k]
	if c.next(3) > 0 {
		c.notes = slices.Delete(c.notes, k, k+1)
	}
	if m.epoch != c.epoch {
		return
	}
	l := c.lines[m.to]
	switch {
	case m.q.Kind == 0:
		l.Commit(min(m.at, l.Len())) // an old one is refused
	case c.blind:
		l.Put(m.q)
	default:
		l.Take(m.at, m.q) // it has it, or lacks one ahead of it: refused
	}
}

// commit has the tail commit what it has: all have that.
func (c *chain) commit() {
	tail := c.line(len(c.nodes) - 1)
	tail.Commit(tail.Committed() + c.next(tail.Len()-tail.Committed()+1))
	if c.early {
		c.line(0).Commit(c.line(0).Len())
	}
}

// answer has a node answer all clients whose request it knows as committed.
func (c *chain) answer(place int) {
	l := c.line(place)
	for client, q := range c.open {
		at, ok := l.Find(client, q.Seq)
		if q.Kind == 0 || !ok {
			continue
		}
		if reply, e := l.Reply(at); e == api.OK {
			c.told = append(c.told, answer{q, at, reply})
			c.open[client] = api.Req{}
		}
	}
}

// die has a node die, if it is not the last one.
func (c *chain) die(place int) {
	if len(c.nodes) > 1 {
		c.nodes = slices.Delete(c.nodes, place, place+1)
		c.epoch++
	}
}

func (c *chain) step() {
	place := c.next(len(c.nodes))
	switch c.next(8) {
	case 0:
		c.ask(c.next(api.MaxClients))
	case 1:
		if len(c.asked) > 0 {
			c.come(c.asked[len(c.asked)-1-c.next(min(len(c.asked), 10))])
		}
	case 2:
		c.tell(place)
	case 3:
		c.commit()
	case 4:
		c.answer(place)
	case 5, 6, 7:
		if len(c.notes) > 0 {
			c.deliver(c.next(len(c.notes)))
		}
	}
	if len(c.notes) > 30 {
		c.notes = slices.Delete(c.notes, 0, c.next(10)) // lost
	}
}

// agree tells if the logs of all nodes have one beginning, each is one of that above it, and each has what was answered where it was told, as it was told.
func (c *chain) agree(t *testing.T) bool {
	t.Helper()
	above := c.line(0).Since(0, math.MaxInt)
	for place := range c.nodes {
		l := c.line(place)
		own := l.Since(0, math.MaxInt)
		if len(own) > len(above) || !slices.Equal(own, above[:len(own)]) || l.Committed() > c.line(len(c.nodes)-1).Len() {
			return false
		}
		above = own
		if !stands(t, own, c.told) {
			return false
		}
	}
	return true
}

// stands tells if what was answered stands in a log.
func stands(t *testing.T, log []api.Req, told []answer) bool {
	t.Helper()
	p := plain{quota: 5, all: log, committed: len(log)}
	_, replies := p.done(t)
	for _, a := range told {
		if a.at > len(log) || log[a.at-1] != a.q || !sameReply(replies[a.at-1], a.reply) {
			return false
		}
	}
	return true
}

// once tells if each request of a log stands there once, and each version is of another request: 1, 2, 3 and so on of each resource.
func once(t *testing.T, l *line.Line) bool {
	t.Helper()
	seen := map[string]bool{}
	for id := range api.MaxId + 1 {
		for _, v := range l.Store().Versions(id) {
			if seen[v.Data] && !v.Gone {
				return false
			}
			seen[v.Data] = true
		}
	}
	versions := map[int]int{}
	for at, q := range l.Since(0, l.Committed()) {
		if reply, _ := l.Reply(at + 1); reply.Code == api.RDone {
			versions[q.Id]++
			if reply.Version != versions[q.Id] {
				return false
			}
		}
	}
	return true
}

// result is what came of many scripts: how many were seen to be broken, how much was answered, how often the head refused what came.
type result struct{ broken, told, refused int }

func scripts(t *testing.T, change func(c *chain)) result {
	t.Helper()
	next := numbers()
	var r result
	for script := range 200 {
		c := chainOf(t, 1+script%api.MaxNodes, next)
		change(c)
		right := true
		for k := 1; k <= 2000; k++ {
			c.step()
			if k%500 == 0 {
				c.die(next(len(c.nodes)))
			}
			if k%50 == 0 && right {
				right = c.agree(t)
			}
		}
		c.line(0).Commit(c.line(0).Len())
		if !right || !once(t, c.line(0)) {
			r.broken++
		}
		r.told += len(c.told)
		r.refused += c.refused
	}
	return r
}

func TestEachRequestTakesEffectOnce(t *testing.T) {
	r := scripts(t, func(c *chain) {})
	if r.broken > 0 {
		t.Errorf("broken in %d scripts", r.broken)
	}
	if r.refused > 0 {
		t.Errorf("the head, which looks if it has a request, refused one %d times", r.refused)
	}
	if r.told < 5000 {
		t.Errorf("only %d were answered", r.told)
	}
}

// Also where the head does not look: the log itself refuses what it has.
func TestEachRequestTakesEffectOnceAnyhow(t *testing.T) {
	r := scripts(t, func(c *chain) { c.deaf = true })
	if r.broken > 0 || r.refused < 1000 {
		t.Errorf("broken in %d scripts, %d times refused", r.broken, r.refused)
	}
}

// What that leans on, without which it is seen to be broken by the same scripts.
func TestOnceLeansOnPlacesAndSeqs(t *testing.T) {
	for name, change := range map[string]func(c *chain){
		"the head knows all it has as committed": func(c *chain) { c.early = true },
		"asked again with another Seq":           func(c *chain) { c.renames = true },
		"put wherever it comes":                  func(c *chain) { c.blind = true },
	} {
		if r := scripts(t, change); r.broken == 0 {
			t.Errorf("%s: this finds nothing", name)
		}
	}
}
