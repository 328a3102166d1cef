package tally_test

import (
	"fmt"
	"slices"
	"testing"

	"casebook/accept"
	"casebook/api"
	"casebook/ballot"
	"casebook/tally"
)

// proposal is one proposer's: what its tally was given and counted, so that it can be made again, and what it asks to accept.
type proposal struct {
	b     api.Ballot
	own   api.Chain
	votes []vote
	yes   []int
	asked api.Chain // of epoch 0, before it asks
}

// tally answers the proposal's own. It fails unless that counts all again.
func (p proposal) tally(t *testing.T, n int) *tally.Tally {
	x, e := tally.New(n, p.b, p.own)
	is := e == api.OK
	for _, v := range p.votes {
		is = is && x.Promise(v.node, v.Vote)
	}
	for _, node := range p.yes {
		is = is && x.Yes(node)
	}
	if !is {
		t.Fatalf("of %d nodes, %v: not all is counted", n, p)
	}
	return x
}

// scene is where a search stands: what acceptors would start with, and proposals of the epoch 2.
type scene struct {
	acceptors []string
	proposals []proposal
}

// with answers the scene with another proposal at a place, and what an acceptor has then.
func (s scene) with(k int, p proposal, node int, a *accept.Acceptor) scene {
	s.acceptors, s.proposals = slices.Clone(s.acceptors), slices.Clone(s.proposals)
	s.proposals[k] = p
	s.acceptors[node] = string(a.Bytes())
	return s
}

func (s scene) acceptor(t *testing.T, node int) *accept.Acceptor {
	a, e := accept.Load(len(s.acceptors), []byte(s.acceptors[node]))
	if e != api.OK {
		t.Fatalf("Load(%x): %d", s.acceptors[node], e)
	}
	return a
}

// prepared are the scenes behind one in which a node promises to a proposal.
func (s scene) prepared(t *testing.T, k, node int) []scene {
	p := s.proposals[k]
	if slices.ContainsFunc(p.votes, func(v vote) bool { return v.node == node }) {
		return nil
	}
	a := s.acceptor(t, node)
	v, e := a.Prepare(2, p.b)
	if e != api.OK {
		return nil
	}
	p.votes = append(slices.Clone(p.votes), vote{node, v})
	slices.SortFunc(p.votes, func(a, b vote) int { return a.node - b.node }) // so that fewer scenes differ
	return []scene{s.with(k, p, node, a)}
}

// asked are the scenes behind one in which a proposal asks, from a majority of promises on; one that doesn't look asks for its own.
func (s scene) asked(t *testing.T, k int, looks bool) []scene {
	p := s.proposals[k]
	if p.asked.Epoch > 0 {
		return nil
	}
	x := p.tally(t, len(s.acceptors))
	if !x.Ready() {
		return nil
	}
	p.asked = p.own
	if looks {
		p.asked = x.Chain()
	}
	return []scene{s.with(k, p, 0, s.acceptor(t, 0))}
}

// accepted are the scenes behind one in which a node accepts what a proposal asks.
func (s scene) accepted(t *testing.T, k, node int) []scene {
	p := s.proposals[k]
	if p.asked.Epoch == 0 || slices.Contains(p.yes, node) {
		return nil
	}
	a := s.acceptor(t, node)
	if a.Accept(p.asked, p.b, false) != api.OK {
		return nil
	}
	p.yes = append(slices.Clone(p.yes), node)
	slices.Sort(p.yes)
	return []scene{s.with(k, p, node, a)}
}

// behind are all scenes that may come next: any message comes, and none must.
func (s scene) behind(t *testing.T, looks bool) []scene {
	var l []scene
	for k := range s.proposals {
		l = append(l, s.asked(t, k, looks)...)
		for node := range s.acceptors {
			l = append(l, s.prepared(t, k, node)...)
			l = append(l, s.accepted(t, k, node)...)
		}
	}
	return l
}

// found is what a search found: how many scenes, the most chains and proposals that were chosen in one, how often a later proposer was Ready behind what a majority accepted, and how often it would propose another chain.
type found struct{ scenes, chains, by, later, others int }

// look adds a scene to what was found.
func (f *found) look(t *testing.T, s scene) {
	var l []api.Chain
	by := 0
	for _, p := range s.proposals {
		if !p.tally(t, len(s.acceptors)).Done() {
			continue
		}
		by++
		if !slices.ContainsFunc(l, func(c api.Chain) bool { return sameChain(c, p.asked) }) {
			l = append(l, p.asked)
		}
		for _, q := range s.proposals {
			x := q.tally(t, len(s.acceptors))
			if ballot.Cmp(q.b, p.b) <= 0 || !x.Ready() {
				continue
			}
			f.later++
			if !sameChain(x.Chain(), p.asked) {
				f.others++
			}
		}
	}
	f.scenes++
	f.chains, f.by = max(f.chains, len(l)), max(f.by, by)
}

// search goes through all scenes that there are with n acceptors, which start anew at each call, in whatever order messages come, and however many are lost.
func search(t *testing.T, n int, proposals []proposal, looks bool) found {
	t.Helper()
	first := scene{proposals: proposals}
	for range n {
		a, e := accept.New(n)
		if e != api.OK {
			t.Fatalf("New(%d): %d", n, e)
		}
		first.acceptors = append(first.acceptors, string(a.Bytes()))
	}
	var f found
	seen := map[string]struct{}{fmt.Sprint(first): {}}
	for work := []scene{first}; len(work) > 0; {
		s := work[len(work)-1]
		work = work[:len(work)-1]
		f.look(t, s)
		if f.chains > 1 {
			break
		}
		for _, x := range s.behind(t, looks) {
			name := fmt.Sprint(x)
			if _, had := seen[name]; !had {
				seen[name] = struct{}{}
				work = append(work, x)
			}
		}
	}
	return f
}

// 14.2, whatever comes in whatever order: behind what a majority accepted, a later proposer that is Ready has that chain, and no other one is chosen.
func TestWhatAMajorityAcceptedIsProposed(t *testing.T) {
	for _, x := range []struct {
		n int
		l []proposal
	}{
		{1, []proposal{{b: at(1, 0), own: of(2, 0)}, {b: at(1, 1), own: of(2, 0)}}},
		{2, []proposal{{b: at(1, 0), own: of(2, 0, 1)}, {b: at(1, 1), own: of(2, 1)}}},
		{3, []proposal{{b: at(1, 0), own: of(2, 0, 1)}, {b: at(1, 1), own: of(2, 1, 2)}}},
		{3, []proposal{{b: at(0, 0), own: of(2, 2)}, {b: at(api.MaxBallot, 4), own: of(2, 0)}}},
		{3, []proposal{{b: at(1, 0), own: of(2, 0, 1)}, {b: at(1, 1), own: of(2, 1, 2)}, {b: at(2, 0), own: of(2, 2)}}},
		{4, []proposal{{b: at(1, 0), own: of(2, 0, 1)}, {b: at(1, 1), own: of(2, 1, 2)}}},
	} {
		f := search(t, x.n, x.l, true)
		if f.chains != 1 || f.by != len(x.l) || f.later == 0 || f.others > 0 {
			t.Errorf("of %d nodes, %v: %+v", x.n, x.l, f)
		}
		if f := search(t, x.n, x.l, false); f.chains < 2 && x.n > 1 {
			t.Errorf("of proposers that don't look, too: %+v: this finds nothing", f)
		}
	}
}
