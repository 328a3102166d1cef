package accept_test

import (
	"fmt"
	"slices"
	"testing"

	"casebook/accept"
	"casebook/api"
	"casebook/ballot"
	"casebook/chain"
)

// proposal is one proposer's: its own chain, with a ballot; who promised and who accepted, as bits; of those that promised and had, the greatest Accepted and its Chain.
type proposal struct {
	b              api.Ballot
	own            api.Chain
	promised, said int
	best           api.Vote
	asked          api.Chain // what it asks to accept, from the first one asked on
}

func count(bits int) int {
	n := 0
	for ; bits > 0; bits /= 2 {
		n += bits % 2
	}
	return n
}

// hear counts a vote that was promised.
func (p *proposal) hear(node int, v api.Vote) {
	p.promised |= 1 << node
	if v.Has && (!p.best.Has || ballot.Cmp(v.Accepted, p.best.Accepted) > 0) {
		p.best = v
	}
}

// ask answers what is asked to be accepted, if a majority of n promised; one that doesn't look asks for its own.
func (p *proposal) ask(n int, looks bool) (api.Chain, bool) {
	if 2*count(p.promised) <= n {
		return api.Chain{}, false
	}
	if p.asked.Epoch == 0 {
		p.asked = p.own
		if looks && p.best.Has {
			p.asked = p.best.Chain
		}
	}
	return p.asked, true
}

// scene is where a search stands: what three acceptors would start with, and proposals of the epoch 2.
type scene struct {
	acceptors [3]string
	proposals []proposal
}

func (s scene) name() string { return fmt.Sprint(s) }

func (s scene) copy() scene {
	s.proposals = slices.Clone(s.proposals)
	return s
}

// prepare answers the scene behind a node's Prepare of a proposal; false, if it refuses or did so.
func (s scene) prepare(t *testing.T, k, node int) (scene, bool) {
	s = s.copy()
	p := &s.proposals[k]
	if p.promised>>node%2 == 1 || p.asked.Epoch > 0 {
		return s, false
	}
	a, e := accept.Load(3, []byte(s.acceptors[node]))
	if e != api.OK {
		t.Fatalf("Load(%x): %d", s.acceptors[node], e)
	}
	v, e := a.Prepare(2, p.b)
	if e != api.OK {
		return s, false
	}
	p.hear(node, v)
	s.acceptors[node] = string(a.Bytes())
	return s, true
}

// accept answers the scene behind a node's Accept of a proposal; false, if it refuses, did so or is not asked.
func (s scene) accept(t *testing.T, k, node int, looks bool) (scene, bool) {
	s = s.copy()
	p := &s.proposals[k]
	c, is := p.ask(3, looks)
	if !is || p.said>>node%2 == 1 {
		return s, false
	}
	a, e := accept.Load(3, []byte(s.acceptors[node]))
	if e != api.OK {
		t.Fatalf("Load(%x): %d", s.acceptors[node], e)
	}
	if a.Accept(c, p.b, false) != api.OK {
		return s, false
	}
	p.said |= 1 << node
	s.acceptors[node] = string(a.Bytes())
	return s, true
}

// chosen are the chains that a majority accepted with one ballot, and of how many proposals.
func (s scene) chosen() ([]api.Chain, int) {
	var l []api.Chain
	of := 0
	for _, p := range s.proposals {
		if count(p.said) < 2 {
			continue
		}
		of++
		if !slices.ContainsFunc(l, func(c api.Chain) bool { return sameChain(c, p.asked) }) {
			l = append(l, p.asked)
		}
	}
	return l, of
}

// search goes through all scenes that there are behind a beginning, in whatever order messages come, and however many are lost; it tells how many chains were chosen at most, and by how many proposals.
func search(t *testing.T, proposals []proposal, looks bool) (chains, by, scenes int) {
	t.Helper()
	first := scene{proposals: proposals}
	for node := range first.acceptors {
		first.acceptors[node] = string(begun(t, 3).Bytes())
	}
	seen := map[string]struct{}{first.name(): {}}
	for work := []scene{first}; len(work) > 0; {
		s := work[len(work)-1]
		work = work[:len(work)-1]
		l, of := s.chosen()
		if chains, by = max(chains, len(l)), max(by, of); chains > 1 {
			break
		}
		for k := range s.proposals {
			for node := range s.acceptors {
				prepared, isPrepared := s.prepare(t, k, node)
				told, isTold := s.accept(t, k, node, looks)
				for _, x := range []struct {
					s  scene
					is bool
				}{{prepared, isPrepared}, {told, isTold}} {
					if !x.is {
						continue
					}
					name := x.s.name()
					if _, had := seen[name]; !had {
						seen[name] = struct{}{}
						work = append(work, x.s)
					}
				}
			}
		}
	}
	return chains, by, len(seen)
}

// 13.3, whatever comes in whatever order to three acceptors that start anew at each call.
func TestWhatIsChosenIsOneChain(t *testing.T) {
	for _, proposals := range [][]proposal{
		{{b: at(1, 0), own: of(2, 0, 1)}, {b: at(1, 1), own: of(2, 1, 2)}},
		{{b: at(0, 0), own: of(2, 2)}, {b: at(api.MaxBallot, 4), own: of(2, 0)}},
		{{b: at(1, 0), own: of(2, 0, 1)}, {b: at(1, 1), own: of(2, 1, 2)}, {b: at(2, 0), own: of(2, 2)}},
	} {
		chains, by, scenes := search(t, proposals, true)
		if chains != 1 || by != len(proposals) {
			t.Errorf("in %d scenes of %v: %d chains, of %d proposals", scenes, proposals, chains, by)
		}
		if chains, _, _ := search(t, proposals, false); chains < 2 {
			t.Errorf("of proposers that don't look, too, only %d chains: this finds nothing", chains)
		}
	}
}

// message is what is on its way between nodes: a question of a proposal, or a vote that answers one.
type message struct {
	from, to, epoch int
	b               api.Ballot
	c               api.Chain // what is asked to be accepted; without nodes: to be promised
	answers         bool
	v               api.Vote
}

// peer is a node that accepts, and proposes.
type peer struct {
	a     *accept.Acceptor
	seen  api.Ballot // the greatest one that it proposed or was told of
	epoch int        // that of its proposal
	p     proposal
}

// cluster is peers, what is on its way between them, and what was chosen, by epoch.
type cluster struct {
	next   func(n int) int
	peers  []peer
	way    []message
	said   map[string]int // who accepted what, as bits
	chosen []api.Chain
}

func clusterOf(t *testing.T, next func(n int) int, n int) *cluster {
	w := &cluster{next: next, said: map[string]int{}}
	for range n {
		w.peers = append(w.peers, peer{a: begun(t, n)})
	}
	w.chosen = []api.Chain{w.peers[0].a.Known()}
	return w
}

func (w *cluster) toAll(m message) {
	for m.to = range w.peers {
		w.way = append(w.way, m)
	}
}

// propose lets a node propose a chain that may follow the one that it knows, with a ballot above all that it saw.
func (w *cluster) propose(node int) {
	x := &w.peers[node]
	known := x.a.Known()
	own, e := chain.With(known, w.next(len(w.peers)))
	if e != api.OK || w.next(2) == 0 {
		own, e = chain.Without(known, []int{w.next(len(w.peers))})
	}
	b, is := ballot.Next(x.seen, node)
	if e != api.OK || !is {
		return
	}
	x.seen, x.epoch, x.p = b, own.Epoch, proposal{b: b, own: own}
	w.toAll(message{from: node, epoch: own.Epoch, b: b})
}

// deliver gives a message to whom it is for.
func (w *cluster) deliver(t *testing.T, m message) {
	t.Helper()
	x := &w.peers[m.to]
	if ballot.Cmp(m.b, x.seen) > 0 {
		x.seen = m.b
	}
	switch {
	case m.answers:
		if m.epoch == x.epoch && m.b == x.p.b && x.p.asked.Epoch == 0 {
			x.p.hear(m.from, m.v)
		}
		if c, is := x.p.ask(len(w.peers), true); is && m.epoch == x.epoch && w.next(2) == 0 {
			w.toAll(message{from: m.to, epoch: m.epoch, b: x.p.b, c: c})
		}
	case len(m.c.Nodes) > 0:
		if x.a.Accept(m.c, m.b, w.next(8) == 0) == api.OK {
			w.count(t, m)
		}
	default:
		if v, e := x.a.Prepare(m.epoch, m.b); e == api.OK {
			w.way = append(w.way, message{from: m.to, to: m.from, epoch: m.epoch, b: m.b, answers: true, v: v})
		}
	}
}

// count counts who accepted. It fails if another chain of that epoch was chosen, or it may not follow the one ahead.
func (w *cluster) count(t *testing.T, m message) {
	t.Helper()
	what := fmt.Sprint(m.epoch, m.b, m.c)
	w.said[what] |= 1 << m.to
	if 2*count(w.said[what]) <= len(w.peers) {
		return
	}
	switch {
	case m.epoch <= len(w.chosen):
		if !sameChain(w.chosen[m.epoch-1], m.c) {
			t.Fatalf("chosen: %v and %v", w.chosen[m.epoch-1], m.c)
		}
	case m.epoch > len(w.chosen)+1 || !chain.Next(w.chosen[m.epoch-2], m.c, len(w.peers)):
		t.Fatalf("chosen: %v behind %v", m.c, w.chosen)
	default:
		w.chosen = append(w.chosen, m.c)
	}
}

// step lets anything happen: a message comes, comes twice or is lost, a node proposes, starts anew, or learns of what was chosen.
func (w *cluster) step(t *testing.T) {
	t.Helper()
	node := w.next(len(w.peers))
	switch kind := w.next(24); {
	case kind == 0:
		w.propose(node)
	case kind == 1:
		a, e := accept.Load(len(w.peers), w.peers[node].a.Bytes())
		if e != api.OK {
			t.Fatalf("Load of Bytes: %d", e)
		}
		w.peers[node] = peer{a: a, seen: w.peers[node].seen}
	case kind == 2:
		w.peers[node].a.Learn(w.chosen[w.next(len(w.chosen))])
	case kind == 3:
		w.peers[node].a.Learn(w.chosen[len(w.chosen)-1])
	case len(w.way) > 0:
		k := w.next(len(w.way))
		m := w.way[k]
		if kind > 5 { // else it stays, to come twice
			w.way = slices.Delete(w.way, k, k+1)
		}
		if kind > 4 {
			w.deliver(t, m)
		}
	}
	if len(w.way) > 100 {
		w.way = slices.Delete(w.way, 0, 50)
	}
}

// 13.3, and T6 as far as acceptors go, along long scripts: what is chosen is one chain for each epoch, one after the other.
func TestWhatIsChosenIsOneSequence(t *testing.T) {
	next := numbers()
	for script := range 60 {
		n := 1 + script%api.MaxNodes
		w := clusterOf(t, next, n)
		for range 4000 {
			w.step(t)
		}
		if n > 1 && len(w.chosen) < 10 {
			t.Errorf("script %d, of %d nodes: only %v", script, n, w.chosen)
		}
	}
}
