package grant_test

import (
	"slices"
	"testing"

	"casebook/accept"
	"casebook/api"
	"casebook/chain"
	"casebook/clock"
	"casebook/grant"
	"casebook/tally"
)

// question is one for a lease: when it was asked, and who told yes, as bits.
type question struct{ asked, told int }

// peer is a node: an acceptor, and one that asks for leases. It does not know its questions ahead of first any more.
type peer struct {
	g         *grant.Grants
	questions []question
	first     int
}

// message is a node's question on its way to an acceptor, or the yes to it on its way back.
type message struct {
	isYes          bool
	node, acceptor int
	id             int
}

// faults are what a cluster may have, so that it is seen that scripts find them.
type faults struct {
	anyTicks bool // clocks are not nearly alike
	forgets  bool // who starts anew does as if it had begun long ago
}

// cluster is peers, whose times clocks tell, and what is on its way between them.
type cluster struct {
	faults
	n      int
	clocks *clock.Clocks
	now    []int
	peers  []peer
	way    []message
}

func clusterOf(t *testing.T, n int, f faults) *cluster {
	t.Helper()
	clocks, e := clock.New(n)
	if e != api.OK {
		t.Fatalf("New(%d): %d", n, e)
	}
	w := &cluster{faults: f, n: n, clocks: clocks, now: make([]int, n)}
	for range n {
		w.peers = append(w.peers, peer{g: begun(t, n, 0)})
	}
	return w
}

// tick has a clock tick, if it may.
func (w *cluster) tick(node int) bool {
	if !w.anyTicks && !w.clocks.Tick(node) && !(w.clocks.Round() && w.clocks.Tick(node)) {
		return false
	}
	w.now[node]++
	return true
}

// ask has a node ask all acceptors for a lease.
func (w *cluster) ask(node int) {
	p := &w.peers[node]
	p.questions = append(p.questions, question{asked: w.now[node]})
	for acceptor := range w.n {
		w.way = append(w.way, message{node: node, acceptor: acceptor, id: len(p.questions) - 1})
	}
}

// deliver has a message come to whom it is for; the yes to a question is behind all that is on its way.
func (w *cluster) deliver(k int) {
	m := w.way[k]
	w.drop(k)
	if m.isYes {
		w.peers[m.node].questions[m.id].told |= 1 << m.acceptor
	} else if w.peers[m.acceptor].g.Give(w.now[m.acceptor], m.node) {
		m.isYes = true
		w.way = append(w.way, m)
	}
}

func (w *cluster) drop(k int) { w.way = slices.Delete(w.way, k, k+1) }

// start has a node crash and start anew: what it promised and what it asked are not known any more.
func (w *cluster) start(t *testing.T, node int) {
	t.Helper()
	begin := w.now[node]
	if w.forgets {
		begin = 0
	}
	p := &w.peers[node]
	p.g, p.first = begun(t, w.n, begin), len(p.questions)
}

func count(bits int) int {
	n := 0
	for ; bits > 0; bits /= 2 {
		n += bits % 2
	}
	return n
}

// left answers for how many ticks more a node's lease is valid at most: of all its questions, so that it is valid no less long than one that has the last four alone (16.1).
func (w *cluster) left(node int) int {
	ticks := 0
	for _, q := range w.peers[node].questions[w.peers[node].first:] {
		if count(q.told) >= tally.Most(w.n) {
			ticks = max(ticks, q.asked+api.Lease-w.now[node])
		}
	}
	return ticks
}

// against answers how many acceptors that know the chain of all refuse now to accept one without a node.
func (w *cluster) against(t *testing.T, out int) int {
	t.Helper()
	refuse := 0
	for acceptor, p := range w.peers {
		a, _ := accept.New(w.n)
		to, e := chain.Without(a.Known(), []int{out})
		if e != api.OK {
			t.Fatalf("%v without %d: %d", a.Known(), out, e)
		}
		switch e := a.Accept(to, api.Ballot{Round: 1}, p.g.Veto(w.now[acceptor], a.Known(), to)); e {
		case api.ErrVeto:
			refuse++
		case api.OK:
		default:
			t.Fatalf("Accept(%v): %d", to, e)
		}
	}
	return refuse
}

// found is what scripts show: how often a lease was valid, how often in its last tick, how often no majority was against leaving its node out then; how often a majority would have left out one whose lease was not.
type found struct{ valid, last, broken, out int }

// look adds what is so at a moment.
func (f *found) look(t *testing.T, w *cluster) {
	t.Helper()
	for node := range w.n {
		left, refuse := w.left(node), w.against(t, node)
		switch {
		case left > 0:
			f.valid++
			if left == 1 {
				f.last++
			}
			if refuse < tally.Most(w.n) {
				f.broken++
			}
		case w.n-refuse >= tally.Most(w.n):
			f.out++
		}
	}
}

// lots answers how many lots each clock has: in turn all alike, or some hurry and some lag.
func lots(next func(n int) int, n, turn int) []int {
	l := alike(n, 10)
	for k := range l {
		if turn%2 == 1 {
			l[k] = []int{1, 10, 60}[next(3)]
		}
	}
	return l
}

// drawn answers a place by lots.
func drawn(next func(n int) int, l []int) int {
	sum := 0
	for _, n := range l {
		sum += n
	}
	x := next(sum)
	for k, n := range l {
		if x -= n; x < 0 {
			return k
		}
	}
	return 0
}

// step does something that may be: a question, whatever happens to a message, a start, or else ticks.
func (w *cluster) step(t *testing.T, next func(n int) int, l []int) {
	t.Helper()
	some := func() int { return next(len(w.way)) }
	switch x := next(400); {
	case x < 4:
		w.ask(next(w.n))
	case x < 5:
		w.start(t, next(w.n))
	case x < 60 && len(w.way) > 0:
		w.deliver(some())
	case x < 64 && len(w.way) > 0:
		w.drop(some())
	case x < 66 && len(w.way) > 0:
		w.way = append(w.way, w.way[some()])
	default:
		w.tick(drawn(next, l))
	}
}

// scripts tells what is found in many scripts, of two to five nodes.
func scripts(t *testing.T, has faults) found {
	t.Helper()
	next := numbers()
	var f found
	for script := range 80 {
		n := 2 + script%4
		w, l := clusterOf(t, n, has), lots(next, n, script/4)
		for range 1500 {
			w.step(t, next, l)
			f.look(t, w)
		}
	}
	return f
}

// 15.2, by whatever messages, starts, and clocks that are nearly alike.
func TestWhileALeaseIsValidAMajorityLetsNobodyBeLeftOut(t *testing.T) {
	f := scripts(t, faults{})
	if f.broken > 0 {
		t.Errorf("no majority was against it %d times of %d", f.broken, f.valid)
	}
	if f.valid < 3000 || f.last < 100 || f.out < 3000 {
		t.Errorf("too seldom: %+v", f)
	}
}

// What the promise leans on, without which it is seen to be broken by the same scripts.
func TestLeasesLeanOnClocksAndOnWhatIsPromisedAtAStart(t *testing.T) {
	if f := scripts(t, faults{anyTicks: true}); f.broken == 0 {
		t.Errorf("clocks that are not nearly alike: %+v: this finds nothing", f)
	}
	if f := scripts(t, faults{forgets: true}); f.broken == 0 {
		t.Errorf("starts that forget: %+v: this finds nothing", f)
	}
}

// ticks has the clock of the node 0 tick so often, and then each other one.
func (w *cluster) ticks(t *testing.T, first, others int) {
	t.Helper()
	for node := range w.n {
		often := others
		if node == 0 {
			often = first
		}
		for range often {
			if !w.tick(node) {
				t.Fatalf("the clock %d does not tick at %v", node, w.now)
			}
		}
	}
}

// deliverAll has all messages come, and what is told then.
func (w *cluster) deliverAll() {
	for len(w.way) > 0 {
		w.deliver(0)
	}
}

// wantLeft fails unless a lease of the node 0 is valid for so many ticks, and so many are against leaving it out.
func (w *cluster) wantLeft(t *testing.T, ticks, refuse int) {
	t.Helper()
	if w.left(0) != ticks || w.against(t, 0) != refuse {
		t.Errorf("at %v: %d ticks are left, %d are against it; not %d, %d", w.now, w.left(0), w.against(t, 0), ticks, refuse)
	}
}

// 15.2, where clocks go as far apart as they may: what was promised at once holds in the lease's last tick, though others' clocks showed 42 more by then.
func TestPromisesHoldAsLongAsALease(t *testing.T) {
	for n := 2; n <= api.MaxNodes; n++ {
		w := clusterOf(t, n, faults{})
		for range 60 { // what was promised at the beginning is over then
			w.ticks(t, 1, 1)
		}
		w.ticks(t, 1, 0)
		w.wantLeft(t, 0, 0)
		w.ask(0)
		w.deliverAll()
		w.wantLeft(t, 20, n)
		w.ticks(t, 0, 2)
		for range 19 {
			w.ticks(t, 0, 2)
			w.ticks(t, 1, 0)
		}
		w.ticks(t, 0, 2)
		if w.now[0] != 80 || w.now[1] != 102 {
			t.Fatalf("clocks show %v", w.now)
		}
		w.wantLeft(t, 1, n)
		w.ticks(t, 1, 0)
		w.wantLeft(t, 0, n)
	}
}

// Who asks no more is left out when what a majority promised is over, and not sooner.
func TestWhoAsksNoMoreIsLeftOut(t *testing.T) {
	for n := 2; n <= api.MaxNodes; n++ {
		w := clusterOf(t, n, faults{})
		w.ask(0)
		for range n { // each tick one acceptor hears the question
			w.deliver(0)
			w.ticks(t, 1, 1)
		}
		for now := n; now < 70; now++ {
			over := min(max(now-49, 0), n) // one promised until 50, the next one until 51, and so on
			if refuse := w.against(t, 0); refuse != n-over {
				t.Errorf("%d nodes, at %d: %d are against it", n, now, refuse)
			}
			w.ticks(t, 1, 1)
		}
	}
}
