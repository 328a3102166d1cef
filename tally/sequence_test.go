package tally_test

import (
	"fmt"
	"slices"
	"testing"

	"casebook/accept"
	"casebook/api"
	"casebook/ballot"
	"casebook/chain"
	"casebook/tally"
)

// Kinds of messages: a proposer asks for promises, gets votes, asks to accept a chain, hears yes, and tells what was chosen.
const (
	toPromise = iota
	toVote
	toAccept
	toSayYes
	toLearn
)

type message struct {
	kind, from, to int
	b              api.Ballot
	c              api.Chain // of those to promise only its epoch
	v              api.Vote
}

// peer is a node that accepts, and proposes.
type peer struct {
	a     *accept.Acceptor
	seen  api.Ballot   // the greatest one that it proposed or was told of
	x     *tally.Tally // of its proposal, if it has one
	b     api.Ballot   // that one's
	epoch int          // that one's
	asked api.Chain    // what it asks to accept, from when it is Ready
}

// choice is a chain that a majority accepted, and the least ballot known with which they did.
type choice struct {
	b api.Ballot
	c api.Chain
}

// cluster is peers, what is on its way between them, who accepted what, and what was chosen, by epoch.
type cluster struct {
	next    func(n int) int
	peers   []peer
	way     []message
	said    map[string]int // how many accepted a ballot and a chain, by their name; and if a node did, by theirs and its own
	chosen  []choice
	adopted int // how often one was Ready behind another's choice
}

func clusterOf(t *testing.T, next func(n int) int, n int) *cluster {
	t.Helper()
	w := &cluster{next: next, said: map[string]int{}}
	for range n {
		a, e := accept.New(n)
		if e != api.OK {
			t.Fatalf("New(%d): %d", n, e)
		}
		w.peers = append(w.peers, peer{a: a})
	}
	w.chosen = []choice{{c: w.peers[0].a.Known()}}
	return w
}

func (w *cluster) toAll(m message) {
	for m.to = range w.peers {
		w.way = append(w.way, m)
	}
}

// propose lets a node propose a chain that may follow the one that it knows, with a ballot above all that it saw.
func (w *cluster) propose(t *testing.T, node int) {
	t.Helper()
	p := &w.peers[node]
	c, e := chain.With(p.a.Known(), w.next(len(w.peers)))
	if e != api.OK || w.next(2) == 0 {
		c, e = chain.Without(p.a.Known(), []int{w.next(len(w.peers))})
	}
	b, is := ballot.Next(p.seen, node)
	if e != api.OK || !is {
		return
	}
	p.x, p.seen, p.b, p.epoch, p.asked = begun(t, len(w.peers), b, c), b, b, c.Epoch, api.Chain{}
	w.toAll(message{kind: toPromise, from: node, b: b, c: of(c.Epoch)})
}

// deliver gives a message to whom it is for.
func (w *cluster) deliver(t *testing.T, m message) {
	t.Helper()
	p := &w.peers[m.to]
	if ballot.Cmp(m.b, p.seen) > 0 {
		p.seen = m.b
	}
	back := message{from: m.to, to: m.from, b: m.b}
	switch m.kind {
	case toPromise:
		if v, e := p.a.Prepare(m.c.Epoch, m.b); e == api.OK {
			back.kind, back.v = toVote, v
			w.way = append(w.way, back)
		}
	case toVote:
		p.x.Promise(m.from, m.v)
		w.ask(t, m.to)
	case toAccept:
		if p.a.Accept(m.c, m.b, w.next(8) == 0) == api.OK {
			w.count(t, m)
			back.kind = toSayYes
			w.way = append(w.way, back)
		}
	case toSayYes:
		if m.b == p.b {
			p.x.Yes(m.from)
			w.end(t, m.to)
		}
	case toLearn:
		p.a.Learn(m.c)
	}
}

// ask lets a node that is Ready ask, sometimes later. It fails if it would ask for another chain than the one that a majority accepted with a lesser ballot.
func (w *cluster) ask(t *testing.T, node int) {
	t.Helper()
	p := &w.peers[node]
	if !p.x.Ready() {
		return
	}
	if p.epoch <= len(w.chosen) && ballot.Cmp(w.chosen[p.epoch-1].b, p.b) < 0 {
		w.adopted++
		if c := w.chosen[p.epoch-1].c; !sameChain(p.x.Chain(), c) {
			t.Fatalf("%v would ask for %v, behind %v", p.b, p.x.Chain(), c)
		}
	}
	if p.asked.Epoch == 0 && w.next(2) == 0 {
		p.asked = p.x.Chain()
		w.toAll(message{kind: toAccept, from: node, b: p.b, c: p.asked})
	}
}

// count counts who accepted. It fails if another chain of that epoch was chosen, or it may not follow the one ahead.
func (w *cluster) count(t *testing.T, m message) {
	t.Helper()
	what := fmt.Sprint(m.b, m.c)
	if who := fmt.Sprint(what, m.to); w.said[who] == 0 {
		w.said[who]++
		w.said[what]++
	}
	if 2*w.said[what] <= len(w.peers) {
		return
	}
	if m.c.Epoch == len(w.chosen)+1 && chain.Next(w.chosen[m.c.Epoch-2].c, m.c, len(w.peers)) {
		w.chosen = append(w.chosen, choice{m.b, m.c})
		return
	}
	if m.c.Epoch > len(w.chosen) || !sameChain(w.chosen[m.c.Epoch-1].c, m.c) {
		t.Fatalf("chosen: %v behind %v", m.c, w.chosen)
	}
	if x := &w.chosen[m.c.Epoch-1]; ballot.Cmp(m.b, x.b) < 0 {
		x.b = m.b
	}
}

// end lets a node whose proposal is Done tell what was chosen. It fails if that was not.
func (w *cluster) end(t *testing.T, node int) {
	t.Helper()
	p := &w.peers[node]
	if !p.x.Done() {
		return
	}
	if p.epoch > len(w.chosen) || !sameChain(w.chosen[p.epoch-1].c, p.asked) {
		t.Fatalf("Done: %v; chosen: %v", p.asked, w.chosen)
	}
	w.toAll(message{kind: toLearn, from: node, b: p.b, c: p.asked})
}

// step lets anything happen: a message comes, comes twice or is lost, a node proposes, or starts anew, its proposal forgotten.
func (w *cluster) step(t *testing.T) {
	t.Helper()
	node := w.next(len(w.peers))
	switch kind := w.next(32); {
	case kind == 0:
		w.propose(t, node)
	case kind == 1:
		a, e := accept.Load(len(w.peers), w.peers[node].a.Bytes())
		if e != api.OK {
			t.Fatalf("Load of Bytes: %d", e)
		}
		w.peers[node] = peer{a: a, seen: w.peers[node].seen}
	case len(w.way) > 0:
		k := w.next(len(w.way))
		m := w.way[k]
		if kind > 4 { // else it stays, to come twice
			w.way = slices.Delete(w.way, k, k+1)
		}
		if kind > 3 {
			w.deliver(t, m)
		}
	default:
		w.propose(t, node)
	}
	if len(w.way) > 100 {
		w.way = slices.Delete(w.way, 0, 50)
	}
}

// 14.2 and T6, along long scripts: what is chosen is one chain for each epoch, one after the other, as far as proposers' counts tell.
func TestWhatIsChosenIsOneSequence(t *testing.T) {
	next := numbers()
	for script := range 60 {
		n := 1 + script%api.MaxNodes
		w := clusterOf(t, next, n)
		for range 4000 {
			w.step(t)
		}
		if n > 1 && (len(w.chosen) < 10 || w.adopted < 10) {
			t.Errorf("script %d, of %d nodes: %d were Ready behind others' choice; only %v", script, n, w.adopted, w.chosen)
		}
	}
}
