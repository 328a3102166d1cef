package hold_test

import (
	"slices"
	"testing"

	"casebook/accept"
	"casebook/api"
	"casebook/ballot"
	"casebook/chain"
	"casebook/clock"
	"casebook/grant"
	"casebook/hold"
	"casebook/tally"
)

// peer is a node: an acceptor, one that promises, and one that asks for leases, in so many lives so far.
type peer struct {
	a    *accept.Acceptor
	g    *grant.Grants
	h    *hold.Hold
	life int
	told map[int][]int // who told yes, by question
}

// message is a node's question on its way to an acceptor, or the yes to it on its way back.
type message struct {
	isYes           bool
	node, acceptor  int
	life, id, epoch int
}

// proposal is of a chain, which acceptors hear of when they are met.
type proposal struct {
	t       *tally.Tally
	b       api.Ballot
	epoch   int
	isReady bool
	chain   api.Chain // what is proposed, if it is ready
}

// faults are what a cluster may have, so that it is seen that scripts find them.
type faults struct {
	fromTold bool // leases hold from when a majority told
	anyTicks bool // clocks are not nearly alike
	forgets  bool // who starts anew does as if it had begun long ago
	oneLife  bool // who starts anew counts who told in a life ahead
	blind    bool // who accepted a chain without a node promises it that it is not left out
	anyEpoch bool // who knows another epoch than that of the question promises, too
}

// cluster is peers, whose times clocks tell, what is on its way between them, and the chains that were chosen, from epoch 1 on.
type cluster struct {
	faults
	n         int
	clocks    *clock.Clocks
	now       []int
	peers     []peer
	way       []message
	proposals []*proposal
	chosen    []api.Chain
}

// ok fails if there is an error.
func ok(t *testing.T, e int) {
	t.Helper()
	if e != api.OK {
		t.Fatalf("error %d", e)
	}
}

func clusterOf(t *testing.T, n int, f faults) *cluster {
	t.Helper()
	clocks, e := clock.New(n)
	ok(t, e)
	first, e := chain.First(n)
	ok(t, e)
	w := &cluster{faults: f, n: n, clocks: clocks, now: make([]int, n), chosen: []api.Chain{first}}
	for range n {
		a, e := accept.New(n)
		ok(t, e)
		w.peers = append(w.peers, peer{a: a})
	}
	for node := range n {
		w.start(t, node)
	}
	return w
}

// start has a node start, with what it knows of chains alone.
func (w *cluster) start(t *testing.T, node int) {
	t.Helper()
	p := &w.peers[node]
	begin := w.now[node]
	if w.forgets {
		begin = 0
	}
	var e int
	p.a, e = accept.Load(w.n, p.a.Bytes())
	ok(t, e)
	p.g, e = grant.New(w.n, begin)
	ok(t, e)
	p.h, p.told, p.life = begun(t, w.n), map[int][]int{}, p.life+1
}

// tick has a clock tick, if it may.
func (w *cluster) tick(node int) bool {
	if !w.anyTicks && !w.clocks.Tick(node) && !(w.clocks.Round() && w.clocks.Tick(node)) {
		return false
	}
	w.now[node]++
	return true
}

// ask has a node ask all acceptors for a lease, if it is one of the chain's.
func (w *cluster) ask(t *testing.T, node int) {
	t.Helper()
	p := &w.peers[node]
	known := p.a.Known()
	if !chain.Has(known, node) {
		return
	}
	id := p.h.Ask(w.now[node], known.Epoch)
	if id < 1 {
		t.Fatalf("Ask(%d, %d): %d", w.now[node], known.Epoch, id)
	}
	for acceptor := range w.n {
		w.way = append(w.way, message{node: node, acceptor: acceptor, life: p.life, id: id, epoch: known.Epoch})
	}
}

// deliver has a message come to whom it is for; the yes to a question is behind all that is on its way.
func (w *cluster) deliver(k int) {
	m := w.way[k]
	w.drop(k)
	switch {
	case m.isYes:
		w.hear(m)
	case w.promises(m):
		m.isYes = true
		w.way = append(w.way, m)
	}
}

func (w *cluster) drop(k int) { w.way = slices.Delete(w.way, k, k+1) }

// promises has an acceptor promise a node that it is not left out, unless it knows another chain, or accepted one in which that is so.
func (w *cluster) promises(m message) bool {
	p := w.peers[m.acceptor]
	if m.epoch != p.a.Known().Epoch && !w.anyEpoch {
		return false
	}
	if v := p.a.Vote(); v.Has && !chain.Has(v.Chain, m.node) && !w.blind {
		return false
	}
	return p.g.Give(w.now[m.acceptor], m.node)
}

// hear has a node count a yes.
func (w *cluster) hear(m message) {
	p := &w.peers[m.node]
	if m.life != p.life && !w.oneLife {
		return
	}
	if !w.fromTold {
		p.h.Told(m.id, m.acceptor)
		return
	}
	p.told[m.id] = append(p.told[m.id], m.acceptor)
	anew := p.h.Ask(w.now[m.node], m.epoch)
	for _, acceptor := range p.told[m.id] {
		p.h.Told(anew, acceptor)
	}
}

// propose has a node propose what may follow the chain that it knows: without one or two, or with one more.
func (w *cluster) propose(t *testing.T, next func(n int) int, node int) {
	t.Helper()
	known := w.peers[node].a.Known()
	c, e := chain.Without(known, []int{next(w.n), next(w.n)})
	if next(3) == 0 {
		c, e = chain.With(known, next(w.n))
	}
	if e == api.OK {
		w.add(t, node, c)
	}
}

// add has a node propose a chain.
func (w *cluster) add(t *testing.T, node int, c api.Chain) *proposal {
	t.Helper()
	x := &proposal{b: w.nextBallot(t, node), epoch: c.Epoch}
	var e int
	x.t, e = tally.New(w.n, x.b, c)
	ok(t, e)
	w.proposals = append(w.proposals, x)
	return x
}

// nextBallot is greater than all that were.
func (w *cluster) nextBallot(t *testing.T, node int) api.Ballot {
	t.Helper()
	var last api.Ballot
	if len(w.proposals) > 0 {
		last = w.proposals[len(w.proposals)-1].b
	}
	b, is := ballot.Next(last, node)
	if !is {
		t.Fatalf("nothing behind %v", last)
	}
	return b
}

// meet has an acceptor hear of a proposal.
func (w *cluster) meet(t *testing.T, x *proposal, acceptor int) {
	t.Helper()
	p := w.peers[acceptor]
	switch {
	case !x.t.Ready():
		if v, e := p.a.Prepare(x.epoch, x.b); e == api.OK {
			x.t.Promise(acceptor, v)
		}
		return
	case !x.isReady:
		x.isReady, x.chain = true, x.t.Chain()
	}
	if p.a.Accept(x.chain, x.b, p.g.Veto(w.now[acceptor], p.a.Known(), x.chain)) == api.OK {
		x.t.Yes(acceptor)
	}
	if x.t.Done() && x.epoch > len(w.chosen) {
		w.chosen = append(w.chosen, x.chain)
	}
}

// met is one of the proposals, mostly of the latest ones.
func (w *cluster) met(next func(n int) int) *proposal {
	many := len(w.proposals)
	if next(10) > 0 {
		many = min(many, 2)
	}
	return w.proposals[len(w.proposals)-1-next(many)]
}

// learn has a node learn of a chain that was chosen.
func (w *cluster) learn(node, epoch int) { w.peers[node].a.Learn(w.chosen[epoch-1]) }

// has tells if a node's lease of the chain that it knows is valid.
func (w *cluster) has(node int) bool {
	p := w.peers[node]
	return p.h.Valid(w.now[node], p.a.Known().Epoch)
}

// isOut tells if a node was left out of a chain, behind the one that it knows or of that one.
func (w *cluster) isOut(node int) bool {
	epoch := w.peers[node].a.Known().Epoch
	return slices.ContainsFunc(w.chosen[epoch-1:], func(c api.Chain) bool { return !chain.Has(c, node) })
}

// found is what scripts show: how often a lease was valid, how often that of one that was left out, how many chains left out one, or took one in.
type found struct{ valid, broken, out, in int }

// look adds what is so at a moment.
func (f *found) look(w *cluster) {
	for node := range w.n {
		if !w.has(node) {
			continue
		}
		f.valid++
		if w.isOut(node) {
			f.broken++
		}
	}
}

// lookBack adds which chains were chosen.
func (f *found) lookBack(w *cluster) {
	for k := 1; k < len(w.chosen); k++ {
		if len(w.chosen[k].Nodes) < len(w.chosen[k-1].Nodes) {
			f.out++
		} else {
			f.in++
		}
	}
}

// pace is how often each thing is done in a script: of so many steps one is a question, a start, a proposal, or so many are messages, meetings; else clocks tick, each with so many lots.
type pace struct {
	asks, starts, proposals, messages, meetings int
	clocks                                      []int
}

// paceOf draws one: in some scripts messages are slow, in others proposals; clocks are alike, or some hurry and some lag.
func paceOf(next func(n int) int, n, script int) pace {
	x := pace{asks: 1 + next(12), starts: next(3), proposals: 3 + next(10), messages: []int{20, 60, 200}[next(3)], meetings: 100 + next(300)}
	for range n {
		lots := 1
		if script%2 == 1 {
			lots = []int{1, 10, 60}[next(3)]
		}
		x.clocks = append(x.clocks, lots)
	}
	return x
}

// drawn answers a place by lots.
func drawn(next func(n int) int, l []int) int {
	sum := 0
	for _, n := range l {
		sum += n
	}
	x := next(sum)
	for k, n := range l {
		if x -= n; x < 0 {
			return k
		}
	}
	return 0
}

// step does something that may be.
func (w *cluster) step(t *testing.T, next func(n int) int, x pace) {
	t.Helper()
	lots := []int{x.asks, x.starts, x.proposals, x.messages, 2, 1, x.meetings, 20, 300}
	switch kind := drawn(next, lots); {
	case kind == 0:
		w.ask(t, next(w.n))
	case kind == 1:
		w.start(t, next(w.n))
	case kind == 2:
		w.propose(t, next, next(w.n))
	case kind == 3 && len(w.way) > 0:
		w.deliver(next(len(w.way)))
	case kind == 4 && len(w.way) > 0:
		w.drop(next(len(w.way)))
	case kind == 5 && len(w.way) > 0:
		w.way = append(w.way, w.way[next(len(w.way))])
	case kind == 6 && len(w.proposals) > 0:
		w.meet(t, w.met(next), next(w.n))
	case kind == 7:
		w.learn(next(w.n), 1+next(len(w.chosen)))
	default:
		w.tick(drawn(next, x.clocks))
	}
}

// scripts tells what is found in many scripts, of two to five nodes.
func scripts(t *testing.T, has faults) found {
	t.Helper()
	next := numbers()
	var f found
	for script := range 200 {
		n := 2 + script%4
		w, x := clusterOf(t, n, has), paceOf(next, n, script/4)
		for range 3000 {
			w.step(t, next, x)
			f.look(w)
		}
		f.lookBack(w)
	}
	return f
}

// T1, as far as a lease goes: whose lease is valid is in each chain that was chosen, whatever messages, starts, and proposals there are, by clocks that are nearly alike.
func TestWhoseLeaseIsValidIsNotLeftOut(t *testing.T) {
	f := scripts(t, faults{})
	if f.broken > 0 {
		t.Errorf("left out %d times of %d", f.broken, f.valid)
	}
	if f.valid < 100000 || f.out < 100 || f.in < 100 {
		t.Errorf("too seldom: %+v", f)
	}
}

// What that leans on, without which it is seen to be broken by the same scripts.
func TestWhatLeasesLeanOn(t *testing.T) {
	for name, has := range map[string]faults{
		"leases that hold from when they were told":            {fromTold: true},
		"clocks that are not nearly alike":                     {anyTicks: true},
		"starts that forget what was promised":                 {forgets: true},
		"promises of who accepted a chain without that node":   {blind: true},
		"promises of who knows another chain than who asks it": {anyEpoch: true},
	} {
		if f := scripts(t, has); f.broken == 0 {
			t.Errorf("%s: %+v: this finds nothing", name, f)
		}
	}
}

// ticks has all clocks tick so often.
func (w *cluster) ticks(t *testing.T, often int) {
	t.Helper()
	for range often {
		for node := range w.n {
			if !w.tick(node) {
				t.Fatalf("the clock %d does not tick at %v", node, w.now)
			}
		}
	}
}

// deliverMany has so many messages come, one behind the other.
func (w *cluster) deliverMany(many int) {
	for range many {
		w.deliver(0)
	}
}

// wantOut has the nodes 1 and 2 leave out 0, and fails unless that is done, and its lease is valid then, or not.
func (w *cluster) wantOut(t *testing.T, valid bool) {
	t.Helper()
	c, e := chain.Without(w.chosen[0], []int{0})
	ok(t, e)
	x := w.add(t, 1, c)
	for _, acceptor := range []int{1, 2, 1, 2} {
		w.meet(t, x, acceptor)
	}
	if !w.isOut(0) || w.has(0) != valid {
		t.Errorf("at %v: left out: %t, its lease: %t; not %t", w.now, w.isOut(0), w.has(0), valid)
	}
}

// A lease holds from when it was asked for: yeses that come 40 ticks late make none, as what they promised is over soon.
func TestLateYesesMakeNoLease(t *testing.T) {
	for _, fromTold := range []bool{false, true} {
		w := clusterOf(t, 3, faults{fromTold: fromTold})
		w.ticks(t, 60)
		w.ask(t, 0)
		w.deliverMany(3)
		w.ticks(t, 40)
		w.deliverMany(3)
		w.ticks(t, 10)
		w.wantOut(t, fromTold)
	}
}

// Numbers begin anew with each New, so who starts anew must not take yeses to a life ahead for its own.
func TestYesesToALifeAheadMakeNoLease(t *testing.T) {
	for _, oneLife := range []bool{false, true} {
		w := clusterOf(t, 3, faults{oneLife: oneLife})
		w.ticks(t, 60)
		w.ask(t, 0)
		w.deliverMany(3)
		w.ticks(t, 40)
		w.start(t, 0)
		w.ask(t, 0)
		w.deliverMany(3) // the yeses: the questions are behind them
		w.ticks(t, 10)
		w.way = nil
		w.wantOut(t, oneLife)
	}
}
