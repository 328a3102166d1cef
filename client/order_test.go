package client_test

import (
	"testing"

	"casebook/api"
	"casebook/client"
	"casebook/line"
)

// 21.2: a request is asked until it is answered, and never twice as two

// cluster is nodes of which the head writes what it is asked into one log, and clients that ask them by a network that may lose, double and keep what it is given. Nobody but its head is told of a new chain at once.
type cluster struct {
	twice   bool // the head writes all that comes, and does not look at its Seq
	anew    bool // who waits for long asks the same as another request
	next    func(n int) int
	chain   api.Chain
	knows   [3]api.Chain // the chain that each node knows
	log     *line.Line
	written []api.Req // what the head wrote, in its order
	asks    []message
	answers []message
	clients []*user
}

// message is a request on its way to a node, or what a node says to one who asked.
type message struct {
	to    int
	q     api.Req
	known api.Chain
	done  bool
}

// user is a client, and what it did.
type user struct {
	c        *client.Client
	now      int
	asked    []api.Req // what it asked anybody, each try
	answered []int     // the numbers of what was answered
	silent   int       // for how long nothing was asked, while it waits
}

func newCluster(t *testing.T, next func(n int) int) *cluster {
	t.Helper()
	log, _ := line.New(5)
	x := &cluster{next: next, chain: chainOf(1, 0, 1, 2), log: log}
	for id := range api.MaxClients {
		x.clients = append(x.clients, &user{c: begun(t, id, 3), now: 1000 * id})
	}
	return x
}

// send has a client ask a node for what is pending.
func (x *cluster) send(u *user, node int) {
	q, _ := u.c.Pending()
	u.asked = append(u.asked, q)
	u.silent = 0
	x.asks = append(x.asks, message{to: node, q: q})
}

// want has a client ask for something new, if it waits for nothing.
func (x *cluster) want(u *user) {
	q := api.Req{Kind: api.OpUpdate, Id: x.next(3), Data: "b"}
	if node, e := u.c.Ask(u.now, q); e == api.OK {
		x.send(u, node)
	}
}

// tick has the clock of a client tick.
func (x *cluster) tick(u *user) {
	u.now++
	if u.c.Tries() > 0 {
		u.silent++
	}
	if x.anew && u.c.Tries() > 3 {
		q, _ := u.c.Pending()
		u.c.Answer(q.Seq)
		node, _ := u.c.Ask(u.now, q)
		x.send(u, node)
		return
	}
	if node, ok := u.c.Tick(u.now); ok {
		x.send(u, node)
	}
}

// hear has a node hear a request: the head writes it, unless it is there, and all say which chain they know.
func (x *cluster) hear(m message) {
	if m.to == x.chain.Nodes[0] {
		x.knows[m.to] = x.chain
	}
	reply := message{q: m.q, known: x.knows[m.to], done: m.to == x.chain.Nodes[0]}
	if reply.done {
		if _, e := x.log.Put(m.q); e == api.OK || x.twice {
			x.written = append(x.written, m.q)
		}
		_, reply.done = x.log.Find(m.q.Client, m.q.Seq)
	}
	x.answers = append(x.answers, reply)
}

// told has a client told what a node said.
func (x *cluster) told(m message) {
	u := x.clients[m.q.Client]
	u.c.Told(m.q.Seq, m.known)
	if m.done && u.c.Answer(m.q.Seq) {
		u.answered = append(u.answered, m.q.Seq)
	}
}

// pick answers one of what is on its way, which is not any more, unless it is doubled.
func (x *cluster) pick(l *[]message, double bool) (message, bool) {
	if len(*l) == 0 {
		return message{}, false
	}
	k := x.next(len(*l))
	m := (*l)[k]
	if !double {
		*l = append((*l)[:k], (*l)[k+1:]...)
	}
	return m, true
}

// deliver has one message come, of those to nodes or of those to clients.
func (x *cluster) deliver(double bool) {
	if x.next(2) == 0 {
		if m, ok := x.pick(&x.asks, double); ok {
			x.hear(m)
		}
	} else if m, ok := x.pick(&x.answers, double); ok {
		x.told(m)
	}
}

// step is any step; those that harm are seldom.
func (x *cluster) step() {
	u := x.clients[x.next(len(x.clients))]
	switch x.next(12) {
	case 0:
		x.want(u)
	case 1, 2, 3:
		x.deliver(x.next(4) == 0)
	case 4:
		x.pick(&x.asks, false)
	case 5:
		x.pick(&x.answers, false)
	case 6:
		if x.next(50) == 0 {
			head := x.next(3)
			x.chain = chainOf(x.chain.Epoch+1, head, (head+1)%3, (head+2)%3)
		}
	default:
		x.tick(u)
	}
}

// calm has all clocks tick, and what is on its way come, so often; nothing new is asked.
func (x *cluster) calm(rounds int) {
	for range rounds {
		for _, u := range x.clients {
			x.tick(u)
		}
		for len(x.asks) > 0 {
			m, _ := x.pick(&x.asks, false)
			x.hear(m)
		}
		for len(x.answers) > 0 {
			m, _ := x.pick(&x.answers, false)
			x.told(m)
		}
	}
}

// isTwo tells if a request stands in the log twice, or as two that one client wanted once.
func (x *cluster) isTwo() bool {
	last := map[int]int{}
	for _, q := range x.written {
		if q.Seq <= last[q.Client] {
			return true
		}
		last[q.Client] = q.Seq
	}
	for _, u := range x.clients {
		if len(u.answered) < u.c.Seq() && u.c.Tries() == 0 {
			return true // it gave up one that may stand
		}
	}
	return false
}

// wantAsked fails unless what a client asked are tries of 1, 2, 3 and so on, each the same in all its tries, and each was answered but what waits.
func wantAsked(t *testing.T, u *user) {
	t.Helper()
	last := api.Req{}
	for k, q := range u.asked {
		if q != last && q.Seq != last.Seq+1 {
			t.Errorf("the try %d is of %v, behind %v", k, q, last)
		}
		last = q
	}
	for k, seq := range u.answered {
		if seq != k+1 {
			t.Errorf("answered: %v", u.answered)
		}
	}
	if waits := u.c.Tries() > 0; last.Seq != u.c.Seq() || len(u.answered) != u.c.Seq() && !waits {
		t.Errorf("the last one is %d of %d; %d were answered", last.Seq, u.c.Seq(), len(u.answered))
	}
}

// scripts runs clusters, and answers in how many a request stood as two, and how many were answered.
func scripts(t *testing.T, change func(x *cluster), look func(x *cluster)) (int, int) {
	t.Helper()
	next := numbers()
	broken, answers := 0, 0
	for range 60 {
		x := newCluster(t, next)
		change(x)
		for range 3000 {
			x.step()
			look(x)
		}
		x.calm(200)
		look(x)
		if x.isTwo() {
			broken++
		}
		for _, u := range x.clients {
			answers += len(u.answered)
		}
	}
	return broken, answers
}

func TestARequestIsAskedUntilItIsAnswered(t *testing.T) {
	look := func(x *cluster) {
		for _, u := range x.clients {
			if u.silent > 32 {
				t.Fatalf("nobody was asked for %d ticks", u.silent)
			}
		}
	}
	broken, answers := scripts(t, func(x *cluster) {}, look)
	if broken > 0 || answers < 800 {
		t.Errorf("two of one in %d scripts, of %d answers", broken, answers)
	}
}

// All that waits is answered when messages come again, as everybody is asked; and nobody asks behind that.
func TestAnsweredOnesAreAskedNoMore(t *testing.T) {
	next := numbers()
	for range 60 {
		x := newCluster(t, next)
		for range 1000 {
			x.step()
		}
		x.calm(8 + 16 + 24 + 5*32)
		tries := 0
		for _, u := range x.clients {
			wantAsked(t, u)
			if _, ok := u.c.Pending(); ok || len(u.answered) != u.c.Seq() {
				t.Fatalf("%d of %d were answered", len(u.answered), u.c.Seq())
			}
			tries += len(u.asked)
		}
		x.calm(500)
		for _, u := range x.clients {
			tries -= len(u.asked)
		}
		if tries != 0 {
			t.Fatal("what was answered is asked")
		}
	}
}

// So it is found if nodes don't look, or if others than this client ask.
func TestTwoOfOneAreFound(t *testing.T) {
	for name, change := range map[string]func(x *cluster){
		"the head writes all that comes":  func(x *cluster) { x.twice = true },
		"who waits for long asks it anew": func(x *cluster) { x.anew = true },
	} {
		if broken, answers := scripts(t, change, func(x *cluster) {}); broken == 0 || answers < 800 {
			t.Errorf("%s: this finds nothing in %d answers", name, answers)
		}
	}
}
