package accept_test

import (
	"fmt"
	"slices"
	"testing"

	"casebook/accept"
	"casebook/api"
)

// plain is an acceptor told by the chapter's words, one error after the other.
type plain struct {
	n int
	state
}

func (p *plain) prepare(epoch int, b api.Ballot) (api.Vote, int) {
	switch {
	case !plainMayBallot(b):
		return api.Vote{}, api.ErrArg
	case epoch <= p.known.Epoch:
		return api.Vote{}, api.ErrLate
	case epoch > p.known.Epoch+1:
		return api.Vote{}, api.ErrState
	case isLess(b, p.vote.Promised):
		return api.Vote{}, api.ErrLate
	}
	p.vote.Promised = b
	return p.vote, api.OK
}

func (p *plain) accept(c api.Chain, b api.Ballot, veto bool) int {
	switch {
	case !plainMayBallot(b) || !plainMayChain(c, api.MaxNodes):
		return api.ErrArg
	case c.Epoch <= p.known.Epoch:
		return api.ErrLate
	case c.Epoch > p.known.Epoch+1:
		return api.ErrState
	case !plainMayChain(c, p.n) || !plainFollows(p.known, c):
		return api.ErrArg
	case isLess(b, p.vote.Promised):
		return api.ErrLate
	case veto:
		return api.ErrVeto
	}
	p.vote = accepted(b, b, c)
	return api.OK
}

func (p *plain) learn(c api.Chain) int {
	switch {
	case !plainMayChain(c, p.n):
		return api.ErrArg
	case c.Epoch <= p.known.Epoch:
		return api.ErrLate
	}
	p.state = state{known: c}
	return api.OK
}

func isLess(a, b api.Ballot) bool {
	return a.Round < b.Round || a.Round == b.Round && a.Node < b.Node
}

// both are an acceptor and what the chapter's words say of it.
type both struct {
	a *accept.Acceptor
	p plain
}

func bothOf(t *testing.T, n int) both {
	t.Helper()
	first := api.Chain{Epoch: 1}
	for node := range n {
		first.Nodes = append(first.Nodes, node)
	}
	return both{begun(t, n), plain{n, state{known: first}}}
}

// call is a call of an acceptor, of each kind that changes one.
type call struct {
	kind  string
	epoch int
	c     api.Chain
	b     api.Ballot
	veto  bool
}

func prepare(epoch int, b api.Ballot) call { return call{kind: "Prepare", epoch: epoch, b: b} }

func asked(c api.Chain, b api.Ballot) call { return call{kind: "Accept", c: c, b: b} }

func vetoed(c api.Chain, b api.Ballot) call { return call{kind: "Accept", c: c, b: b, veto: true} }

func learn(c api.Chain) call { return call{kind: "Learn", c: c} }

// again is a call of Load of its Bytes.
func again() call { return call{kind: "Load"} }

// do does a call of both, and answers its error. It fails unless both answer the same, and are the same behind it.
func (x call) do(t *testing.T, s *both) int {
	t.Helper()
	before := s.p.state
	var got, want int
	var gotVote, wantVote api.Vote
	switch x.kind {
	case "Prepare":
		gotVote, got = s.a.Prepare(x.epoch, x.b)
		wantVote, want = s.p.prepare(x.epoch, x.b)
	case "Accept":
		got, want = s.a.Accept(x.c, x.b, x.veto), s.p.accept(x.c, x.b, x.veto)
	case "Learn":
		got, want = s.a.Learn(x.c), s.p.learn(x.c)
	default:
		s.a, got = accept.Load(s.p.n, s.a.Bytes())
	}
	if got != want || !sameVote(gotVote, wantVote) {
		t.Fatalf("of %d nodes, %v: %v: %v, %d; not %v, %d", s.p.n, before, x, gotVote, got, wantVote, want)
	}
	if !sameChain(s.a.Known(), s.p.known) || !sameVote(s.a.Vote(), s.p.vote) || string(s.a.Bytes()) != string(plainBytes(s.p.state)) {
		t.Fatalf("of %d nodes, %v: %v: %v, %v, %x; not %v", s.p.n, before, x, s.a.Known(), s.a.Vote(), s.a.Bytes(), s.p.state)
	}
	return want
}

// Behind each call of each script of up to four of some chosen calls.
func TestEachShortScript(t *testing.T) {
	calls := []call{
		prepare(2, at(1, 1)), prepare(2, at(1, 2)), prepare(2, at(2, 0)), prepare(3, at(1, 1)), prepare(4, at(1, 1)),
		asked(of(2, 0, 1), at(1, 1)), asked(of(2, 2), at(1, 2)), asked(of(3, 1, 2), at(1, 1)), asked(of(3, 2), at(2, 0)), vetoed(of(2, 0), at(2, 2)),
		learn(of(2, 0, 1)), learn(of(2, 2)), learn(of(3, 1, 2)), learn(of(3, 3)),
		again(),
	}
	const long = 4
	scripts := 1
	for range long {
		scripts *= len(calls)
	}
	for script := range scripts {
		s := bothOf(t, 3)
		for left, k := script, 0; k < long; left, k = left/len(calls), k+1 {
			calls[left%len(calls)].do(t, &s)
		}
	}
}

// numbers answers a call that answers numbers from 0 to below n, the same ones in each run.
func numbers() func(n int) int {
	state := uint64(1)
	return func(n int) int {
		state = state*6364136223846793005 + 1442695040888963407
		return int((state >> 33) % uint64(n))
	}
}

// anyNodes answers nodes in any order, mostly such as a chain may have.
func anyNodes(next func(n int) int, n int) []int {
	var l []int
	for range 1 + next(n) {
		node := next(n + next(2))
		if !slices.Contains(l, node) || next(20) == 0 {
			l = append(l, node)
		}
	}
	return l
}

// anyChain answers a chain near the one that is known, mostly one that may follow.
func anyChain(next func(n int) int, p plain) api.Chain {
	c := of(p.known.Epoch+next(4)-1, anyNodes(next, p.n)...)
	if next(2) == 0 {
		k := next(len(p.known.Nodes))
		c = of(p.known.Epoch+1, p.known.Nodes[k:k+1+next(len(p.known.Nodes)-k)]...)
		if node := next(p.n); !slices.Contains(c.Nodes, node) {
			c.Nodes = append(slices.Clone(c.Nodes), node)
		}
	}
	return c
}

// anyBallot answers one near the one that is promised, or one that may not be.
func anyBallot(next func(n int) int, p plain) api.Ballot {
	return at(p.vote.Promised.Round+next(4)-1, next(api.MaxNodes+1))
}

func anyCall(next func(n int) int, p plain) call {
	switch next(8) {
	case 0, 1:
		return prepare(p.known.Epoch+next(8)/2, anyBallot(next, p))
	case 2, 3, 4:
		return asked(anyChain(next, p), anyBallot(next, p))
	case 5:
		return vetoed(anyChain(next, p), anyBallot(next, p))
	case 6:
		return learn(anyChain(next, p))
	}
	return again()
}

// Behind each call of long scripts, in which each call has each of its answers.
func TestLongScripts(t *testing.T) {
	next := numbers()
	told := map[string]int{}
	for script := range 100 {
		s := bothOf(t, 1+script%api.MaxNodes)
		for range 1000 {
			x := anyCall(next, s.p)
			told[fmt.Sprint(x.kind, x.do(t, &s))]++
		}
	}
	for _, name := range []string{"Prepare0", "Prepare1", "Prepare7", "Prepare4", "Accept0", "Accept1", "Accept7", "Accept4", "Accept8", "Learn0", "Learn1", "Learn7", "Load0"} {
		if told[name] < 100 {
			t.Errorf("%s: only %d times: %v", name, told[name], told)
		}
	}
}
