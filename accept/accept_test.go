package accept_test

import (
	"fmt"
	"math"
	"slices"
	"testing"

	"casebook/accept"
	"casebook/api"
)

// of writes a chain shortly.
func of(epoch int, nodes ...int) api.Chain { return api.Chain{Epoch: epoch, Nodes: nodes} }

// at writes a ballot shortly.
func at(round, node int) api.Ballot { return api.Ballot{Round: round, Node: node} }

// promised is a vote of one that accepted nothing.
func promised(b api.Ballot) api.Vote { return api.Vote{Promised: b} }

// accepted is a vote of one that promised a ballot and accepted a chain with one.
func accepted(promised, with api.Ballot, c api.Chain) api.Vote {
	return api.Vote{Promised: promised, Accepted: with, Has: true, Chain: c}
}

func sameChain(a, b api.Chain) bool { return a.Epoch == b.Epoch && slices.Equal(a.Nodes, b.Nodes) }

func sameVote(a, b api.Vote) bool {
	return a.Promised == b.Promised && a.Accepted == b.Accepted && a.Has == b.Has && sameChain(a.Chain, b.Chain)
}

// noBallots are ballots that may not be.
func noBallots() []api.Ballot {
	var l []api.Ballot
	for _, x := range []int{math.MinInt, -1 << 32, -1} {
		l = append(l, at(x, 0), at(9, x), at(x, x))
	}
	return append(l, at(api.MaxBallot+1, 0), at(math.MaxInt, 4), at(9, api.MaxNodes), at(9, 1<<32), at(9, math.MaxInt))
}

// noNodes are rows of nodes that no chain has.
func noNodes() [][]int {
	return [][]int{nil, {}, {0, 0}, {0, 1, 0}, {-1}, {0, -1}, {5}, {0, 5}, {0, 1, 2, 3, 4, 5}, {0, 1, 2, 3, 4, 0}, {1 << 32}, {math.MinInt}, {math.MaxInt}, make([]int, 1000)}
}

// noCluster are how many nodes there may not be.
func noCluster() []int {
	return []int{math.MinInt, -api.MaxNodes, -1, 0, api.MaxNodes + 1, 1<<32 + 1, math.MaxInt}
}

// begun answers a new acceptor of a cluster that may be.
func begun(t *testing.T, n int) *accept.Acceptor {
	t.Helper()
	a, e := accept.New(n)
	if e != api.OK || a == nil {
		t.Fatalf("New(%d): %v, %d", n, a, e)
	}
	return a
}

// wantState fails unless an acceptor knows and has what it should.
func wantState(t *testing.T, a *accept.Acceptor, known api.Chain, vote api.Vote) {
	t.Helper()
	if got := a.Known(); !sameChain(got, known) {
		t.Errorf("Known: %v; not %v", got, known)
	}
	if got := a.Vote(); !sameVote(got, vote) {
		t.Errorf("Vote: %v; not %v", got, vote)
	}
}

// wantPrepared fails unless Prepare answers this vote, and OK, and the acceptor has it.
func wantPrepared(t *testing.T, a *accept.Acceptor, epoch int, b api.Ballot, want api.Vote) {
	t.Helper()
	known := a.Known()
	if got, e := a.Prepare(epoch, b); !sameVote(got, want) || e != api.OK {
		t.Errorf("Prepare(%d, %v): %v, %d; not %v", epoch, b, got, e, want)
	}
	wantState(t, a, known, want)
}

// wantUnprepared fails unless Prepare tells this error, and nothing is changed.
func wantUnprepared(t *testing.T, a *accept.Acceptor, epoch int, b api.Ballot, want int) {
	t.Helper()
	known, vote := a.Known(), a.Vote()
	if got, e := a.Prepare(epoch, b); !sameVote(got, api.Vote{}) || e != want {
		t.Errorf("Prepare(%d, %v): %v, %d; not %d", epoch, b, got, e, want)
	}
	wantState(t, a, known, vote)
}

// wantAccepted fails unless a chain is accepted with a ballot, which is promised then.
func wantAccepted(t *testing.T, a *accept.Acceptor, c api.Chain, b api.Ballot) {
	t.Helper()
	known := a.Known()
	if e := a.Accept(c, b, false); e != api.OK {
		t.Errorf("Accept(%v, %v): %d", c, b, e)
	}
	wantState(t, a, known, accepted(b, b, c))
}

// wantRefused fails unless Accept tells this error, and nothing is changed.
func wantRefused(t *testing.T, a *accept.Acceptor, c api.Chain, b api.Ballot, veto bool, want int) {
	t.Helper()
	known, vote := a.Known(), a.Vote()
	if e := a.Accept(c, b, veto); e != want {
		t.Errorf("Accept(%v, %v, %t): %d; not %d", c, b, veto, e, want)
	}
	wantState(t, a, known, vote)
}

// wantLearned fails unless a chain is Known then, and the vote is the zero one.
func wantLearned(t *testing.T, a *accept.Acceptor, c api.Chain) {
	t.Helper()
	if e := a.Learn(c); e != api.OK {
		t.Errorf("Learn(%v): %d", c, e)
	}
	wantState(t, a, c, api.Vote{})
}

// wantUnlearned fails unless Learn tells this error, and nothing is changed.
func wantUnlearned(t *testing.T, a *accept.Acceptor, c api.Chain, want int) {
	t.Helper()
	known, vote := a.Known(), a.Vote()
	if e := a.Learn(c); e != want {
		t.Errorf("Learn(%v): %d; not %d", c, e, want)
	}
	wantState(t, a, known, vote)
}

// 13.1: New, Known, Vote

func TestNew(t *testing.T) {
	for i, want := range []api.Chain{of(1, 0), of(1, 0, 1), of(1, 0, 1, 2), of(1, 0, 1, 2, 3), of(1, 0, 1, 2, 3, 4)} {
		wantState(t, begun(t, i+1), want, api.Vote{})
	}
	for _, n := range noCluster() {
		if a, e := accept.New(n); a != nil || e != api.ErrArg {
			t.Errorf("New(%d): %v, %d", n, a, e)
		}
	}
}

func TestNewOnesAreApart(t *testing.T) {
	a, b := begun(t, 3), begun(t, 3)
	wantPrepared(t, a, 2, at(3, 1), promised(at(3, 1)))
	wantLearned(t, a, of(4, 2))
	wantState(t, b, of(1, 0, 1, 2), api.Vote{})
}

// 13.1: Prepare

func TestPrepareOfGreaterAndLesserBallots(t *testing.T) {
	a := begun(t, 3)
	wantPrepared(t, a, 2, at(1, 0), promised(at(1, 0)))
	wantUnprepared(t, a, 2, at(0, 3), api.ErrLate)
	wantUnprepared(t, a, 2, at(0, 0), api.ErrLate)
	wantPrepared(t, a, 2, at(1, 0), promised(at(1, 0))) // a like one isn't less
	wantPrepared(t, a, 2, at(1, 2), promised(at(1, 2)))
	wantUnprepared(t, a, 2, at(1, 1), api.ErrLate)
	wantPrepared(t, a, 2, at(2, 0), promised(at(2, 0)))
	wantUnprepared(t, a, 2, at(1, 4), api.ErrLate)
	wantPrepared(t, a, 2, at(api.MaxBallot, 4), promised(at(api.MaxBallot, 4)))
	wantUnprepared(t, a, 2, at(api.MaxBallot, 3), api.ErrLate)
	wantPrepared(t, a, 2, at(api.MaxBallot, 4), promised(at(api.MaxBallot, 4)))
}

// The least ballot isn't less than that of one that promised nothing; and whose it is need be no node of the cluster.
func TestPrepareOfTheLeastBallot(t *testing.T) {
	a := begun(t, 1)
	wantPrepared(t, a, 2, at(0, 0), api.Vote{})
	wantPrepared(t, a, 2, at(0, 4), promised(at(0, 4)))
}

func TestPrepareTellsWhatIsAccepted(t *testing.T) {
	a := begun(t, 3)
	wantAccepted(t, a, of(2, 0, 2), at(3, 1))
	wantPrepared(t, a, 2, at(3, 1), accepted(at(3, 1), at(3, 1), of(2, 0, 2)))
	wantPrepared(t, a, 2, at(7, 0), accepted(at(7, 0), at(3, 1), of(2, 0, 2)))
	wantUnprepared(t, a, 2, at(6, 4), api.ErrLate)
	wantPrepared(t, a, 2, at(8, 0), accepted(at(8, 0), at(3, 1), of(2, 0, 2)))
	wantLearned(t, a, of(2, 0, 2))
	wantPrepared(t, a, 3, at(1, 0), promised(at(1, 0)))
}

func TestPrepareOfEpochs(t *testing.T) {
	a := begun(t, 3)
	wantPrepared(t, a, 2, at(5, 1), promised(at(5, 1)))
	for known := 1; known <= 9; known += 4 {
		for _, epoch := range []int{math.MinInt, -1, 0, known - 1, known} {
			wantUnprepared(t, a, epoch, at(9, 1), api.ErrLate)
		}
		for _, epoch := range []int{known + 2, known + 3, api.MaxEpoch, api.MaxEpoch + 1, 1<<32 + known + 1, math.MaxInt} {
			wantUnprepared(t, a, epoch, at(9, 1), api.ErrState)
		}
		wantPrepared(t, a, known+1, at(9, 1), promised(at(9, 1)))
		wantLearned(t, a, of(known+4, 2, 0))
	}
}

// Of several errors the first one is told.
func TestPrepareTellsErrorsInTheirOrder(t *testing.T) {
	a := begun(t, 3)
	wantLearned(t, a, of(6, 0, 1))
	wantPrepared(t, a, 7, at(5, 1), promised(at(5, 1)))
	for _, epoch := range []int{math.MinInt, 0, 5, 6, 7, 8, math.MaxInt} {
		for _, b := range noBallots() {
			wantUnprepared(t, a, epoch, b, api.ErrArg)
		}
	}
	for _, b := range []api.Ballot{at(0, 0), at(5, 0), at(5, 1), at(6, 0)} {
		wantUnprepared(t, a, 6, b, api.ErrLate)
		wantUnprepared(t, a, 8, b, api.ErrState)
	}
	wantUnprepared(t, a, 7, at(5, 0), api.ErrLate)
}

// 13.1: Accept

func TestAccept(t *testing.T) {
	a := begun(t, 4)
	wantAccepted(t, a, of(2, 0, 1), at(0, 0))
	wantAccepted(t, a, of(2, 3), at(1, 0)) // a greater ballot may be another chain's
	wantAccepted(t, a, of(2, 3), at(1, 0)) // a like one isn't less
	wantAccepted(t, a, of(2, 1, 2), at(1, 0))
	wantAccepted(t, a, of(2, 0, 1, 2, 3), at(1, 4))
	wantRefused(t, a, of(2, 3), at(1, 3), false, api.ErrLate)
	wantPrepared(t, a, 2, at(2, 2), accepted(at(2, 2), at(1, 4), of(2, 0, 1, 2, 3)))
	wantRefused(t, a, of(2, 3), at(2, 1), false, api.ErrLate)
	wantRefused(t, a, of(2, 0, 1, 2, 3), at(1, 4), false, api.ErrLate)
	wantAccepted(t, a, of(2, 3), at(2, 2))
	wantUnprepared(t, a, 2, at(2, 1), api.ErrLate)
	wantAccepted(t, a, of(2, 2), at(api.MaxBallot, 4))
}

// One that accepts promises, so that no lesser ballot comes behind.
func TestAcceptPromises(t *testing.T) {
	a := begun(t, 3)
	wantAccepted(t, a, of(2, 0, 2), at(4, 2))
	wantUnprepared(t, a, 2, at(4, 1), api.ErrLate)
	wantRefused(t, a, of(2, 0, 2), at(4, 1), false, api.ErrLate)
	wantPrepared(t, a, 2, at(4, 2), accepted(at(4, 2), at(4, 2), of(2, 0, 2)))
}

func TestAcceptUnderVeto(t *testing.T) {
	a := begun(t, 3)
	wantRefused(t, a, of(2, 0, 1), at(4, 2), true, api.ErrVeto)
	wantPrepared(t, a, 2, at(4, 1), promised(at(4, 1))) // the other one isn't promised
	wantRefused(t, a, of(2, 0, 1), at(4, 1), true, api.ErrVeto)
	wantAccepted(t, a, of(2, 0, 1), at(4, 1))
	wantRefused(t, a, of(2, 0, 1), at(4, 1), true, api.ErrVeto) // also of what it has
	wantRefused(t, a, of(2, 1), at(9, 1), true, api.ErrVeto)
	wantAccepted(t, a, of(2, 1), at(4, 2))
}

func TestAcceptOfEpochs(t *testing.T) {
	a := begun(t, 3)
	for known := 1; known <= 9; known += 4 {
		for _, epoch := range []int{0, known - 1, known} {
			wantRefused(t, a, of(epoch, 2, 0), at(9, 1), false, api.ErrLate)
		}
		for _, epoch := range []int{known + 2, known + 3, api.MaxEpoch} {
			wantRefused(t, a, of(epoch, 2, 0), at(9, 1), false, api.ErrState)
		}
		wantAccepted(t, a, of(known+1, 0), at(9, 1))
		wantLearned(t, a, of(known+4, 2, 0))
	}
}

func TestAcceptOfWhatMayNotBe(t *testing.T) {
	a := begun(t, 5)
	wantLearned(t, a, of(6, 0, 1, 2))
	wantPrepared(t, a, 7, at(5, 1), promised(at(5, 1)))
	for _, epoch := range []int{math.MinInt, -1, 0, 1, 5, 6, 7, 8, api.MaxEpoch, api.MaxEpoch + 1, 1<<32 + 7, math.MaxInt} {
		for _, nodes := range noNodes() {
			for _, veto := range []bool{false, true} {
				wantRefused(t, a, of(epoch, nodes...), at(9, 1), veto, api.ErrArg)
				wantRefused(t, a, of(epoch, nodes...), at(1, 1), veto, api.ErrArg)
			}
		}
		for _, b := range noBallots() {
			wantRefused(t, a, of(epoch, 0, 1), b, false, api.ErrArg)
			wantRefused(t, a, of(epoch, 0, 1), b, true, api.ErrArg)
		}
	}
	for _, epoch := range []int{math.MinInt, -1, api.MaxEpoch + 1, 1<<32 + 7, math.MaxInt} {
		wantRefused(t, a, of(epoch, 0, 1), at(9, 1), false, api.ErrArg)
	}
}

// Of chains that may be, those that may not follow Known are refused; a node that is none of the cluster's too.
func TestAcceptOfWhatMayNotFollow(t *testing.T) {
	a := begun(t, 4)
	wantLearned(t, a, of(6, 3, 0, 1))
	for _, nodes := range [][]int{{0, 3}, {3, 1, 0}, {2}, {2, 3}, {3, 2, 0}, {3, 0, 1, 4}, {4}, {3, 0, 1, 2, 4}} {
		wantRefused(t, a, of(7, nodes...), at(9, 1), false, api.ErrArg)
	}
	for i, nodes := range [][]int{{3, 0, 1}, {3}, {0, 1}, {3, 1}, {3, 0, 1, 2}, {0, 2}} {
		wantAccepted(t, a, of(7, nodes...), at(10+i, 1))
	}
}

// Of several errors the first one is told.
func TestAcceptTellsErrorsInTheirOrder(t *testing.T) {
	a := begun(t, 4)
	wantLearned(t, a, of(6, 3, 0, 1))
	wantAccepted(t, a, of(7, 3), at(5, 1))
	for _, veto := range []bool{false, true} {
		for _, b := range []api.Ballot{at(0, 0), at(5, 0), at(5, 1), at(6, 0)} {
			for _, nodes := range [][]int{{3, 0}, {0, 3}, {4}, {3, 0, 1, 2, 4}} {
				wantRefused(t, a, of(5, nodes...), b, veto, api.ErrLate)
				wantRefused(t, a, of(6, nodes...), b, veto, api.ErrLate)
				wantRefused(t, a, of(8, nodes...), b, veto, api.ErrState)
			}
			for _, nodes := range [][]int{{0, 3}, {4}, {3, 0, 1, 2, 4}} {
				wantRefused(t, a, of(7, nodes...), b, veto, api.ErrArg)
			}
		}
		wantRefused(t, a, of(7, 3, 0), at(5, 0), veto, api.ErrLate)
		wantRefused(t, a, of(7, 3), at(0, 4), veto, api.ErrLate)
	}
	wantRefused(t, a, of(7, 3, 0), at(5, 1), true, api.ErrVeto)
}

// 13.1: Learn

func TestLearn(t *testing.T) {
	a := begun(t, 4)
	wantLearned(t, a, of(2, 0, 2))
	wantPrepared(t, a, 3, at(5, 1), promised(at(5, 1)))
	wantLearned(t, a, of(3, 2))
	wantAccepted(t, a, of(4, 2, 3), at(3, 1))
	wantLearned(t, a, of(4, 2)) // another one was chosen
	wantAccepted(t, a, of(5, 2, 3), at(3, 1))
	wantLearned(t, a, of(5, 2, 3)) // this one was
	wantLearned(t, a, of(9, 3, 2, 1, 0))
	wantLearned(t, a, of(10, 0, 1)) // it need not follow the one ahead
	wantLearned(t, a, of(api.MaxEpoch, 1))
}

func TestLearnOfEpochs(t *testing.T) {
	a := begun(t, 3)
	wantAccepted(t, a, of(2, 0, 1), at(5, 1))
	wantUnlearned(t, a, of(0, 0), api.ErrLate)
	wantUnlearned(t, a, of(1, 0), api.ErrLate)
	wantUnlearned(t, a, of(1, 0, 1, 2), api.ErrLate)
	wantLearned(t, a, of(6, 0, 1))
	wantAccepted(t, a, of(7, 1), at(5, 1))
	for _, epoch := range []int{0, 1, 2, 5, 6} {
		wantUnlearned(t, a, of(epoch, 0, 1), api.ErrLate)
		wantUnlearned(t, a, of(epoch, 2), api.ErrLate)
	}
	wantLearned(t, a, of(7, 2))
}

func TestLearnOfWhatMayNotBe(t *testing.T) {
	for n := 1; n <= api.MaxNodes; n++ {
		a := begun(t, n)
		wantAccepted(t, a, of(2, n-1), at(5, 1))
		for _, epoch := range []int{math.MinInt, -1, 0, 1, 2, 3, api.MaxEpoch, api.MaxEpoch + 1, math.MaxInt} {
			for _, nodes := range noNodes() {
				wantUnlearned(t, a, of(epoch, nodes...), api.ErrArg)
			}
			for node := n; node <= api.MaxNodes; node++ {
				wantUnlearned(t, a, of(epoch, node), api.ErrArg)
				wantUnlearned(t, a, of(epoch, 0, node), api.ErrArg)
				wantUnlearned(t, a, of(epoch, node, 0), api.ErrArg)
			}
		}
		for _, epoch := range []int{math.MinInt, -1, api.MaxEpoch + 1, 1<<32 + 2, math.MaxInt} {
			wantUnlearned(t, a, of(epoch, 0), api.ErrArg)
		}
		wantLearned(t, a, of(2, n-1))
	}
}

// Behind the last epoch one may promise, but there is no chain to accept or learn.
func TestTheLastEpoch(t *testing.T) {
	a := begun(t, 3)
	wantLearned(t, a, of(api.MaxEpoch-1, 0, 1))
	wantAccepted(t, a, of(api.MaxEpoch, 1), at(2, 0))
	wantLearned(t, a, of(api.MaxEpoch, 1, 2))
	wantUnprepared(t, a, api.MaxEpoch, at(9, 1), api.ErrLate)
	wantUnprepared(t, a, api.MaxEpoch+2, at(9, 1), api.ErrState)
	wantPrepared(t, a, api.MaxEpoch+1, at(9, 1), promised(at(9, 1)))
	wantRefused(t, a, of(api.MaxEpoch, 1), at(9, 2), false, api.ErrLate)
	wantRefused(t, a, of(api.MaxEpoch+1, 1), at(9, 2), false, api.ErrArg)
	wantUnlearned(t, a, of(api.MaxEpoch, 1), api.ErrLate)
	wantUnlearned(t, a, of(api.MaxEpoch+1, 1), api.ErrArg)
}

// Of nil.

func TestNobody(t *testing.T) {
	var a *accept.Acceptor
	for range 2 {
		wantState(t, a, api.Chain{}, api.Vote{})
		for _, epoch := range []int{math.MinInt, 0, 1, 2, 3, math.MaxInt} {
			wantUnprepared(t, a, epoch, at(0, 0), api.ErrArg)
			wantUnprepared(t, a, epoch, at(9, 1), api.ErrArg)
			wantUnprepared(t, a, epoch, at(-1, 1), api.ErrArg)
			for _, nodes := range [][]int{nil, {0}, {0, 1, 2}, {7}} {
				wantRefused(t, a, of(epoch, nodes...), at(9, 1), false, api.ErrArg)
				wantRefused(t, a, of(epoch, nodes...), at(9, 1), true, api.ErrArg)
				wantUnlearned(t, a, of(epoch, nodes...), api.ErrArg)
			}
		}
		if b := a.Bytes(); len(b) != 0 {
			t.Errorf("Bytes: %x", b)
		}
	}
}

// One that neither New nor Load made: nothing is promised of it, but that no call panics.
func TestTheZeroAcceptor(t *testing.T) {
	var a accept.Acceptor
	for range 2 {
		for _, c := range []api.Chain{{}, of(0, 0), of(1, 0), of(1, 0, 1), of(2, 0)} {
			a.Prepare(c.Epoch, at(1, 1))
			a.Accept(c, at(1, 1), false)
			a.Learn(c)
			a.Known()
			a.Vote()
			a.Bytes()
		}
	}
}

// What is handed in, and what is answered.

// spoil turns all numbers of a list, and of what lies behind it in its memory.
func spoil(l []int) {
	l = l[:cap(l)]
	for i := range l {
		l[i] = 99
	}
}

// full answers an acceptor that knows and has, made of a list that is spoilt.
func full(t *testing.T) *accept.Acceptor {
	t.Helper()
	a := begun(t, 4)
	known, next := of(5, 3, 0, 1), of(6, 3, 1, 2)
	if e := a.Learn(known); e != api.OK {
		t.Fatalf("Learn: %d", e)
	}
	if e := a.Accept(next, at(7, 2), false); e != api.OK {
		t.Fatalf("Accept: %d", e)
	}
	spoil(known.Nodes)
	spoil(next.Nodes)
	return a
}

func TestWhatIsHandedInIsNotKept(t *testing.T) {
	wantState(t, full(t), of(5, 3, 0, 1), accepted(at(7, 2), at(7, 2), of(6, 3, 1, 2)))
	first := full(t)
	b := first.Bytes()
	a, e := accept.Load(4, b)
	clear(b)
	if e != api.OK {
		t.Fatalf("Load: %d", e)
	}
	wantState(t, a, of(5, 3, 0, 1), accepted(at(7, 2), at(7, 2), of(6, 3, 1, 2)))
}

func TestWhatIsHandedInStays(t *testing.T) {
	memory := []int{3, 1, 2, 77, 78}
	for _, epoch := range []int{1, 6, 7, 8} {
		for _, k := range []int{0, 1, 3} {
			a, c := full(t), api.Chain{Epoch: epoch, Nodes: memory[:k]}
			a.Accept(c, at(8, 0), true)
			a.Accept(c, at(8, 0), false)
			a.Learn(c)
			if !slices.Equal(memory, []int{3, 1, 2, 77, 78}) {
				t.Fatalf("%v", memory)
			}
		}
	}
	b := append(full(t).Bytes(), 1, 2)
	before := slices.Clone(b)
	accept.Load(4, b)
	accept.Load(4, b[:len(b)-2])
	if !slices.Equal(b, before) {
		t.Errorf("Load changed its bytes: %x", b)
	}
}

func TestWhatIsAnsweredIsTheCallers(t *testing.T) {
	a := full(t)
	for range 2 {
		known, vote := a.Known(), a.Vote()
		again, e := a.Prepare(6, at(7, 2))
		if e != api.OK {
			t.Fatalf("Prepare: %d", e)
		}
		b := a.Bytes()
		spoil(known.Nodes)
		spoil(vote.Chain.Nodes)
		if !slices.Equal(again.Chain.Nodes, []int{3, 1, 2}) {
			t.Errorf("two answers share a list: %v", again)
		}
		spoil(again.Chain.Nodes)
		clear(b)
		wantState(t, a, of(5, 3, 0, 1), accepted(at(7, 2), at(7, 2), of(6, 3, 1, 2)))
	}
	wantBytes(t, a, fullBytes)
}

// No call panics, whatever it is given, and each says the same again.
func TestAnythingMayBeHandedIn(t *testing.T) {
	numbers := []int{math.MinInt, -1, 0, 1, 2, 3, api.MaxEpoch, 1 << 32, math.MaxInt}
	told := func() string {
		s := ""
		for _, n := range append(numbers, 4, 5) {
			a, e := accept.New(n)
			s += fmt.Sprint(e)
			for _, x := range numbers {
				for _, y := range numbers {
					vote, e := a.Prepare(x, at(y, x))
					s += fmt.Sprint(vote, e, a.Accept(of(x, y), at(y, 1), y > 0), a.Learn(of(x, y, 0)), a.Known(), a.Vote(), a.Bytes())
				}
			}
		}
		return s
	}
	if told() != told() {
		t.Error("the same calls answer otherwise")
	}
}
