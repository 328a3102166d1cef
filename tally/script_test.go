package tally_test

import (
	"fmt"
	"slices"
	"testing"

	"casebook/api"
	"casebook/tally"
)

func plainMayBallot(b api.Ballot) bool {
	return b.Round >= 0 && b.Round <= api.MaxBallot && b.Node >= 0 && b.Node <= api.MaxNodes-1
}

func plainMayChain(c api.Chain) bool {
	for k, node := range c.Nodes {
		if node < 0 || node >= api.MaxNodes || slices.Contains(c.Nodes[:k], node) {
			return false
		}
	}
	return c.Epoch >= 0 && c.Epoch <= api.MaxEpoch && len(c.Nodes) >= 1
}

func isLess(a, b api.Ballot) bool {
	return a.Round < b.Round || a.Round == b.Round && a.Node < b.Node
}

// vote is who promised, and what was told.
type vote struct {
	node int
	api.Vote
}

// plain is a tally told by the chapter's words: it keeps all that was counted, and goes over it when it is asked.
type plain struct {
	n     int
	b     api.Ballot
	c     api.Chain
	votes []vote
	yes   []int
}

func (p *plain) promise(node int, v api.Vote) bool {
	for _, x := range p.votes {
		if x.node == node {
			return false
		}
	}
	if node < 0 || node >= p.n || v.Promised != p.b {
		return false
	}
	if v.Has && (!plainMayBallot(v.Accepted) || !plainMayChain(v.Chain) || v.Chain.Epoch != p.c.Epoch) {
		return false
	}
	p.votes = append(p.votes, vote{node, v})
	return true
}

func (p *plain) ready() bool { return 2*len(p.votes) > p.n }

func (p *plain) chain() api.Chain {
	var greatest *vote
	for k, x := range p.votes {
		if x.Has && (greatest == nil || isLess(greatest.Accepted, x.Accepted)) {
			greatest = &p.votes[k]
		}
	}
	if greatest == nil {
		return p.c
	}
	return greatest.Chain
}

func (p *plain) say(node int) bool {
	if !p.ready() || node < 0 || node >= p.n || slices.Contains(p.yes, node) {
		return false
	}
	p.yes = append(p.yes, node)
	return true
}

func (p *plain) done() bool { return 2*len(p.yes) > p.n }

// both are a tally and what the chapter's words say of it.
type both struct {
	x *tally.Tally
	p plain
}

func bothOf(t *testing.T, n int, b api.Ballot, c api.Chain) both {
	t.Helper()
	return both{begun(t, n, b, c), plain{n: n, b: b, c: c}}
}

// call is a Promise, or a Yes.
type call struct {
	isYes bool
	node  int
	v     api.Vote
}

// do does a call of both, and answers what it answers. It fails unless both answer the same, and tell the same behind it.
func (x call) do(t *testing.T, s *both) bool {
	t.Helper()
	before := fmt.Sprint(s.p)
	var got, want bool
	if x.isYes {
		got, want = s.x.Yes(x.node), s.p.say(x.node)
	} else {
		got, want = s.x.Promise(x.node, x.v), s.p.promise(x.node, x.v)
	}
	if got != want {
		t.Fatalf("%s: %v: %t", before, x, got)
	}
	if s.x.Ready() != s.p.ready() || s.x.Done() != s.p.done() || !sameChain(s.x.Chain(), s.p.chain()) {
		t.Fatalf("%s: %v: %t, %t, %v", before, x, s.x.Ready(), s.x.Done(), s.x.Chain())
	}
	return want
}

// Behind each call of each script of up to four of some chosen calls.
func TestEachShortScript(t *testing.T) {
	calls := []call{{node: 3, v: promised(own())}, {node: -1, v: promised(own())}, {isYes: true, node: 3}}
	for node := range 3 {
		calls = append(calls, call{isYes: true, node: node},
			call{node: node, v: promised(own())},
			call{node: node, v: promised(at(7, 2))},
			call{node: node, v: accepted(own(), at(3, 0), of(2, 2))},
			call{node: node, v: accepted(own(), at(3, 1), of(2, node))},
			call{node: node, v: accepted(own(), at(3, 0), of(3, 2))})
	}
	const long = 4
	scripts := 1
	for range long {
		scripts *= len(calls)
	}
	for script := range scripts {
		s := bothOf(t, 3, own(), mine())
		for left, k := script, 0; k < long; left, k = left/len(calls), k+1 {
			calls[left%len(calls)].do(t, &s)
		}
	}
}

// numbers answers a call that answers numbers from 0 to below n, the same ones in each run.
func numbers() func(n int) int {
	state := uint64(1)
	return func(n int) int {
		state = state*6364136223846793005 + 1442695040888963407
		return int((state >> 33) % uint64(n))
	}
}

// anyNodes answers nodes in any order, mostly such as a chain may have.
func anyNodes(next func(n int) int) []int {
	var l []int
	for range 1 + next(api.MaxNodes) {
		node := next(api.MaxNodes + next(20)/19)
		if !slices.Contains(l, node) || next(40) == 0 {
			l = append(l, node)
		}
	}
	return l
}

// anyVote answers one that is mostly counted: of this ballot, and this epoch.
func anyVote(next func(n int) int, p plain) api.Vote {
	v := promised(p.b)
	if next(10) == 0 {
		v.Promised = at(p.b.Round+next(3)-1, next(api.MaxNodes+1))
	}
	if next(4) == 0 {
		return v
	}
	c := of(p.c.Epoch, anyNodes(next)...)
	if next(10) == 0 {
		c.Epoch += next(3) - 1
	}
	return accepted(v.Promised, at(next(5)-next(10)/9, next(api.MaxNodes)+next(10)/9), c)
}

func anyCall(next func(n int) int, p plain) call {
	node := next(p.n+2) - next(10)/9
	if next(3) == 0 {
		return call{isYes: true, node: node}
	}
	return call{node: node, v: anyVote(next, p)}
}

// Behind each call of many scripts, in which each call has each of its answers, and many are done.
func TestLongScripts(t *testing.T) {
	next := numbers()
	type answer struct {
		n           int
		isYes, told bool
	}
	answers, done := map[answer]int{}, map[int]int{}
	for script := range 10000 {
		n, epochs := 1+script%api.MaxNodes, []int{0, 1, 300, api.MaxEpoch - 1, api.MaxEpoch}
		s := bothOf(t, n, at(next(3), next(api.MaxNodes)), of(epochs[next(len(epochs))], 2, 0, 3))
		for range 8 * n {
			x := anyCall(next, s.p)
			answers[answer{n, x.isYes, x.do(t, &s)}]++
		}
		if s.p.done() {
			done[n]++
		}
	}
	for n := 1; n <= api.MaxNodes; n++ {
		for _, x := range []answer{{n, false, false}, {n, false, true}, {n, true, false}, {n, true, true}} {
			if answers[x] < 500 {
				t.Errorf("%v: only %d times", x, answers[x])
			}
		}
		if done[n] < 300 {
			t.Errorf("of %d nodes: only %d are done", n, done[n])
		}
	}
}
