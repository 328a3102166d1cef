package ballot_test

import (
	"testing"

	"casebook/api"
	"casebook/ballot"
)

// numbers answers a call that answers numbers from 0 to below n, the same ones in each run.
func numbers() func(n int) int {
	state := uint64(1)
	return func(n int) int {
		state = state*6364136223846793005 + 1442695040888963407
		return int((state >> 33) % uint64(n))
	}
}

// proposers are nodes of which each goes on from the greatest ballot that it saw; owners tells whose each ballot is.
type proposers struct {
	seen   [api.MaxNodes]api.Ballot
	owners map[api.Ballot]int
}

func begun(at api.Ballot) *proposers {
	p := &proposers{owners: map[api.Ballot]int{}}
	for node := range p.seen {
		p.seen[node] = at
	}
	return p
}

// propose lets a node see what another one saw, and propose behind all that it saw. It fails if the ballot was anybody's, unless none is left.
func (p *proposers) propose(t *testing.T, node, other int) {
	t.Helper()
	if ballot.Cmp(p.seen[other], p.seen[node]) > 0 {
		p.seen[node] = p.seen[other]
	}
	b, is := ballot.Next(p.seen[node], node)
	if !is {
		return
	}
	if who, had := p.owners[b]; had {
		t.Fatalf("node %d, behind %v: %v, which was node %d's", node, p.seen[node], b, who)
	}
	p.owners[b] = node
	p.seen[node] = b
}

// 11.2, behind each script of three proposals: who proposes, and whom it heard ahead of it.
func TestNoTwoHaveOneBallotBehindEachShortScript(t *testing.T) {
	const choices = api.MaxNodes * api.MaxNodes
	for _, at := range []api.Ballot{{}, of(0, 4), of(1, 2), of(1<<32-1, 4), of(api.MaxBallot-1, 1), of(api.MaxBallot, 0)} {
		for script := range choices * choices * choices {
			p := begun(at)
			left := script
			for range 3 {
				p.propose(t, left%choices/api.MaxNodes, left%api.MaxNodes)
				left /= choices
			}
		}
	}
}

// 11.2, behind each step of long scripts.
func TestNoTwoHaveOneBallot(t *testing.T) {
	next := numbers()
	for script := range 20 {
		p := begun(of(script%4*(api.MaxBallot/4), script%api.MaxNodes))
		for range 2000 {
			p.propose(t, next(api.MaxNodes), next(api.MaxNodes))
		}
		if len(p.owners) != 2000 {
			t.Errorf("script %d: %d ballots", script, len(p.owners))
		}
	}
}

// 11.2, of any two nodes that go on from any two ballots.
func TestNextOfTwoNodesIsNeverOne(t *testing.T) {
	l := append(all(), pairs([]int{0, 1, 2, 3}, nodes())...)
	told := map[api.Ballot]int{}
	for _, b := range l {
		for _, node := range nodes() {
			next, is := ballot.Next(b, node)
			if !is {
				continue
			}
			if who, had := told[next]; had && who != node {
				t.Fatalf("%v is node %d's and node %d's", next, who, node)
			}
			told[next] = node
		}
	}
	if len(told) < len(all())-api.MaxNodes {
		t.Errorf("only %d ballots", len(told))
	}
}
