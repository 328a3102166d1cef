package tally_test

import (
	"fmt"
	"math"
	"slices"
	"testing"

	"casebook/api"
	"casebook/tally"
)

// of writes a chain shortly.
func of(epoch int, nodes ...int) api.Chain { return api.Chain{Epoch: epoch, Nodes: nodes} }

// at writes a ballot shortly.
func at(round, node int) api.Ballot { return api.Ballot{Round: round, Node: node} }

// promised is a vote of one that accepted nothing.
func promised(b api.Ballot) api.Vote { return api.Vote{Promised: b} }

// accepted is a vote of one that promised a ballot and accepted a chain with one.
func accepted(promised, with api.Ballot, c api.Chain) api.Vote {
	return api.Vote{Promised: promised, Accepted: with, Has: true, Chain: c}
}

func sameChain(a, b api.Chain) bool { return a.Epoch == b.Epoch && slices.Equal(a.Nodes, b.Nodes) }

// noBallots are ballots that may not be.
func noBallots() []api.Ballot {
	var l []api.Ballot
	for _, x := range []int{math.MinInt, -1 << 32, -1} {
		l = append(l, at(x, 0), at(9, x), at(x, x))
	}
	return append(l, at(api.MaxBallot+1, 0), at(math.MaxInt, 4), at(9, api.MaxNodes), at(9, 1<<32), at(9, math.MaxInt))
}

// noChains are chains that may not be, of an epoch if that may be.
func noChains(epoch int) []api.Chain {
	var l []api.Chain
	for _, nodes := range [][]int{nil, {}, {0, 0}, {0, 1, 0}, {-1}, {0, -1}, {5}, {0, 5}, {0, 1, 2, 3, 4, 5}, {0, 1, 2, 3, 4, 0}, {1 << 32}, {math.MinInt}, {math.MaxInt}, make([]int, 1000)} {
		l = append(l, of(epoch, nodes...))
	}
	for _, x := range []int{math.MinInt, math.MinInt + 1, -1 << 32, -2, -1, api.MaxEpoch + 1, api.MaxEpoch + 2, 1<<32 + 1, math.MaxInt - 1, math.MaxInt} {
		l = append(l, of(x, 0), of(x, 2, 0, 1))
	}
	return l
}

// noNodes are nodes that a cluster of n has not.
func noNodes(n int) []int {
	return []int{math.MinInt, -1 << 32, -n, -1, n, n + 1, api.MaxNodes, 1 << 32, 1<<32 + n - 1, math.MaxInt}
}

// begun answers a new tally of what may be.
func begun(t *testing.T, n int, b api.Ballot, c api.Chain) *tally.Tally {
	t.Helper()
	x, e := tally.New(n, b, c)
	if e != api.OK || x == nil {
		t.Fatalf("New(%d, %v, %v): %v, %d", n, b, c, x, e)
	}
	return x
}

// own is the ballot, mine the chain of most tallies here.
func own() api.Ballot { return at(7, 1) }

func mine() api.Chain { return of(2, 0, 1) }

// wantState fails unless a tally tells this.
func wantState(t *testing.T, x *tally.Tally, ready bool, c api.Chain, done bool) {
	t.Helper()
	if x.Ready() != ready || !sameChain(x.Chain(), c) || x.Done() != done {
		t.Errorf("ready: %t, chain: %v, done: %t; not %t, %v, %t", x.Ready(), x.Chain(), x.Done(), ready, c, done)
	}
}

// wantCounted fails unless a promise is counted.
func wantCounted(t *testing.T, x *tally.Tally, node int, v api.Vote) {
	t.Helper()
	if !x.Promise(node, v) {
		t.Errorf("Promise(%d, %v) is not counted", node, v)
	}
}

// wantNotCounted fails unless a promise is not counted, and what the tally tells stays.
func wantNotCounted(t *testing.T, x *tally.Tally, node int, v api.Vote) {
	t.Helper()
	ready, c, done := x.Ready(), x.Chain(), x.Done()
	if x.Promise(node, v) {
		t.Errorf("Promise(%d, %v) is counted", node, v)
	}
	wantState(t, x, ready, c, done)
}

// wantYes fails unless a yes is counted, or not.
func wantYes(t *testing.T, x *tally.Tally, node int, want bool) {
	t.Helper()
	if x.Yes(node) != want {
		t.Errorf("Yes(%d) is %t", node, !want)
	}
}

// 14.1: Most

func TestMost(t *testing.T) {
	for n, want := range []int{0, 1, 2, 2, 3, 3, 4, 4, 5, 5, 6} {
		if m := tally.Most(n); m != want {
			t.Errorf("Most(%d): %d", n, m)
		}
	}
	for _, n := range []int{math.MinInt, math.MinInt + 1, -1 << 32, -5, -2, -1} {
		if m := tally.Most(n); m != 0 {
			t.Errorf("Most(%d): %d", n, m)
		}
	}
	for n, want := range map[int]int{100: 51, 101: 51, 1<<32 + 2: 1<<31 + 2, math.MaxInt - 1: 1 << 62, math.MaxInt: 1 << 62} {
		if m := tally.Most(n); m != want {
			t.Errorf("Most(%d): %d", n, m)
		}
	}
}

// So many, and no fewer, that two majorities have one in common.
func TestMostIsMoreThanHalf(t *testing.T) {
	for n := 1; n < 1000; n++ {
		if m := tally.Most(n); m > n || m <= n-m || m-1 > n-(m-1) {
			t.Errorf("Most(%d): %d", n, m)
		}
	}
}

// 14.1: New

func TestNew(t *testing.T) {
	for n := 1; n <= api.MaxNodes; n++ {
		for _, b := range []api.Ballot{at(0, 0), at(0, 4), at(1, 0), at(api.MaxBallot, 4)} {
			// The nodes of b and c need not be the cluster's.
			for _, c := range []api.Chain{of(0, 0), of(0, 4, 3, 2, 1, 0), of(1, 0), of(2, 0, 1, 2), of(2, 4), of(300, 2, 4), of(api.MaxEpoch-1, 1), of(api.MaxEpoch, 3), of(api.MaxEpoch, 1, 0, 4, 3, 2)} {
				wantState(t, begun(t, n, b, c), false, c, false)
			}
		}
	}
}

func wantNone(t *testing.T, n int, b api.Ballot, c api.Chain) {
	t.Helper()
	if x, e := tally.New(n, b, c); x != nil || e != api.ErrArg {
		t.Errorf("New(%d, %v, %v): %v, %d", n, b, c, x, e)
	}
}

func TestNewOfWhatMayNotBe(t *testing.T) {
	for _, n := range []int{math.MinInt, -api.MaxNodes, -1, 0, api.MaxNodes + 1, 1<<32 + 1, math.MaxInt} {
		wantNone(t, n, own(), mine())
		wantNone(t, n, at(-1, 0), of(0))
	}
	for n := 1; n <= api.MaxNodes; n++ {
		for _, b := range noBallots() {
			wantNone(t, n, b, mine())
		}
		for _, epoch := range []int{0, 1, 2, api.MaxEpoch - 1, api.MaxEpoch} {
			for _, c := range noChains(epoch) {
				wantNone(t, n, own(), c)
			}
		}
	}
}

func TestNewOnesAreApart(t *testing.T) {
	x, y := begun(t, 1, own(), mine()), begun(t, 1, own(), mine())
	wantCounted(t, x, 0, accepted(own(), at(3, 0), of(2, 2)))
	wantYes(t, x, 0, true)
	wantState(t, x, true, of(2, 2), true)
	wantState(t, y, false, mine(), false)
}

// 14.1: Promise

func TestPromiseOfNodes(t *testing.T) {
	for n := 1; n <= api.MaxNodes; n++ {
		x := begun(t, n, own(), mine())
		for node := range n {
			for _, none := range noNodes(n) {
				wantNotCounted(t, x, none, promised(own()))
				wantNotCounted(t, x, none, accepted(own(), at(3, 0), of(2, 2)))
			}
			wantCounted(t, x, node, promised(own()))
			for counted := range node + 1 {
				wantNotCounted(t, x, counted, promised(own()))
				wantNotCounted(t, x, counted, accepted(own(), at(3, 0), of(2, 2)))
			}
		}
		wantState(t, x, true, mine(), false)
	}
}

// One of another ballot isn't counted, be it a greater or a lesser one; and that node may promise yet.
func TestPromiseOfBallots(t *testing.T) {
	x := begun(t, 2, own(), mine())
	others := append(noBallots(), at(0, 0), at(7, 0), at(7, 2), at(6, 1), at(8, 1), at(1, 7), at(1<<32+7, 1), at(api.MaxBallot, 4))
	for _, b := range others {
		wantNotCounted(t, x, 0, promised(b))
		wantNotCounted(t, x, 0, accepted(b, at(3, 0), of(2, 2)))
		wantNotCounted(t, x, 0, accepted(b, own(), of(2, 2)))
	}
	wantCounted(t, x, 0, promised(own()))
	for _, b := range others {
		wantNotCounted(t, x, 1, promised(b))
	}
	wantCounted(t, x, 1, promised(own()))
}

func TestPromiseOfTheLeastBallot(t *testing.T) {
	x := begun(t, 3, at(0, 0), mine())
	wantNotCounted(t, x, 0, promised(at(0, 1)))
	wantCounted(t, x, 0, api.Vote{})
	wantCounted(t, x, 1, accepted(at(0, 0), at(0, 0), of(2, 2)))
	wantState(t, x, true, of(2, 2), false)
}

// A vote that has is not counted, if what was accepted may not be, or is another epoch's.
func TestPromiseOfWhatMayNotBeAccepted(t *testing.T) {
	for _, epoch := range []int{0, 1, 2, 300, api.MaxEpoch - 1, api.MaxEpoch} {
		c := of(epoch, 0, 1)
		x := begun(t, 1, own(), c)
		for _, b := range noBallots() {
			wantNotCounted(t, x, 0, accepted(own(), b, of(epoch, 2)))
		}
		for _, no := range noChains(epoch) {
			wantNotCounted(t, x, 0, accepted(own(), at(3, 0), no))
		}
		for _, other := range []int{0, 1, 2, 299, 300, 301, api.MaxEpoch - 1, api.MaxEpoch} {
			if other != epoch {
				wantNotCounted(t, x, 0, accepted(own(), at(3, 0), of(other, 0, 1)))
				wantNotCounted(t, x, 0, accepted(own(), at(3, 0), of(other, 2)))
			}
		}
		wantState(t, x, false, c, false)
		wantCounted(t, x, 0, accepted(own(), at(3, 0), of(epoch, 2)))
		wantState(t, x, true, of(epoch, 2), false)
	}
}

// Of a vote that has not, nobody asks what it accepted.
func TestPromiseOfOneThatHasNot(t *testing.T) {
	for _, v := range []api.Vote{
		{Accepted: at(3, 0), Chain: of(2, 2)},
		{Accepted: at(-1, 9), Chain: of(2, 2)},
		{Accepted: at(3, 0), Chain: of(3, 2)},
		{Accepted: at(3, 0), Chain: of(2, 2, 2)},
		{Accepted: at(3, 0)},
	} {
		v.Promised = own()
		x := begun(t, 1, own(), mine())
		wantCounted(t, x, 0, v)
		wantState(t, x, true, mine(), false)
	}
}

// Nodes of a chain that was accepted may be any that chains have, and its ballot need not be below the one that is promised.
func TestPromiseOfAnythingElse(t *testing.T) {
	for _, b := range []api.Ballot{at(0, 0), at(7, 0), own(), at(7, 2), at(8, 0), at(api.MaxBallot, 4)} {
		for _, nodes := range [][]int{{0}, {4}, {1, 0}, {4, 3, 2, 1, 0}} {
			x := begun(t, 1, own(), mine())
			wantCounted(t, x, 0, accepted(own(), b, of(2, nodes...)))
			wantState(t, x, true, of(2, nodes...), false)
		}
	}
}

// 14.1: Ready

func TestReady(t *testing.T) {
	for i, most := range []int{1, 2, 2, 3, 3} {
		n := i + 1
		x := begun(t, n, own(), mine())
		for k := range n {
			wantState(t, x, k >= most, mine(), false)
			wantCounted(t, x, n-1-k, promised(own()))
			wantNotCounted(t, x, n-1-k, promised(own()))
		}
		wantState(t, x, true, mine(), false)
	}
}

// 14.1: Chain

func TestChainOfTheGreatest(t *testing.T) {
	x := begun(t, 5, own(), mine())
	for _, s := range []struct {
		v    api.Vote
		want api.Chain
	}{
		{promised(own()), mine()},
		{accepted(own(), at(3, 2), of(2, 2)), of(2, 2)},
		{accepted(own(), at(3, 1), of(2, 3)), of(2, 2)}, // lesser by its node
		{accepted(own(), at(2, 4), of(2, 4)), of(2, 2)}, // lesser by its round
		{accepted(own(), at(3, 3), of(2, 0)), of(2, 0)}, // greater by its node
	} {
		for node := range 5 {
			if x.Promise(node, s.v) {
				break
			}
		}
		if c := x.Chain(); !sameChain(c, s.want) {
			t.Errorf("behind %v: %v", s.v, c)
		}
	}
	y := begun(t, 3, own(), mine())
	wantCounted(t, y, 2, accepted(own(), at(3, 4), of(2, 2)))
	wantCounted(t, y, 0, accepted(own(), at(4, 0), of(2, 0))) // greater by its round
	wantState(t, y, true, of(2, 0), false)
	wantCounted(t, y, 1, promised(own()))
	wantState(t, y, true, of(2, 0), false)
}

// Each order of three votes has the same greatest one.
func TestChainInEachOrder(t *testing.T) {
	votes := []api.Vote{accepted(own(), at(3, 2), of(2, 2)), accepted(own(), at(4, 0), of(2, 0)), accepted(own(), at(3, 4), of(2, 3))}
	for _, order := range [][]int{{0, 1, 2}, {0, 2, 1}, {1, 0, 2}, {1, 2, 0}, {2, 0, 1}, {2, 1, 0}} {
		x := begun(t, 3, own(), mine())
		for _, node := range order {
			wantCounted(t, x, node, votes[node])
		}
		wantState(t, x, true, of(2, 0), false)
	}
}

// Of like ballots the one that was counted first is told, whose ever it is.
func TestChainOfLikeOnes(t *testing.T) {
	for _, order := range [][]int{{0, 1, 2}, {2, 1, 0}, {1, 2, 0}} {
		x := begun(t, 3, own(), mine())
		for _, node := range order {
			wantCounted(t, x, node, accepted(own(), at(3, 2), of(2, node)))
		}
		wantState(t, x, true, of(2, order[0]), false)
	}
}

// The least ballot is one, too, with which a chain may be accepted.
func TestChainOfTheLeastBallot(t *testing.T) {
	x := begun(t, 3, own(), mine())
	wantCounted(t, x, 0, promised(own()))
	wantCounted(t, x, 1, accepted(own(), at(0, 0), of(2, 2)))
	wantState(t, x, true, of(2, 2), false)
	wantCounted(t, x, 2, accepted(own(), at(0, 0), of(2, 1)))
	wantState(t, x, true, of(2, 2), false)
}

// It is told at once, and of those too that promise behind a majority.
func TestChainAheadOfReadyAndBehind(t *testing.T) {
	x := begun(t, 3, own(), mine())
	wantCounted(t, x, 0, accepted(own(), at(3, 0), of(2, 2)))
	wantState(t, x, false, of(2, 2), false)
	wantCounted(t, x, 1, promised(own()))
	wantYes(t, x, 0, true)
	wantYes(t, x, 1, true)
	wantState(t, x, true, of(2, 2), true)
	wantCounted(t, x, 2, accepted(own(), at(4, 0), of(2, 0)))
	wantState(t, x, true, of(2, 0), true)
}

// 14.1: Yes, Done

func TestDone(t *testing.T) {
	for i, most := range []int{1, 2, 2, 3, 3} {
		n := i + 1
		x := begun(t, n, own(), mine())
		for node := range most {
			wantYes(t, x, node, false) // not Ready yet
			wantCounted(t, x, node, promised(own()))
		}
		for k := range n { // also of nodes that did not promise, in whatever order
			for _, none := range noNodes(n) {
				wantYes(t, x, none, false)
			}
			wantState(t, x, true, mine(), k >= most)
			wantYes(t, x, n-1-k, true)
			for counted := n - 1 - k; counted < n; counted++ {
				wantYes(t, x, counted, false)
			}
		}
		wantState(t, x, true, mine(), true)
	}
}

// Whoever said yes too early isn't counted, and may say it again.
func TestYesAheadOfReady(t *testing.T) {
	x := begun(t, 3, own(), mine())
	wantYes(t, x, 0, false)
	wantYes(t, x, 2, false)
	wantCounted(t, x, 0, promised(own()))
	wantYes(t, x, 0, false)
	wantYes(t, x, 2, false)
	wantState(t, x, false, mine(), false)
	wantCounted(t, x, 1, promised(own()))
	wantState(t, x, true, mine(), false)
	wantYes(t, x, 0, true)
	wantYes(t, x, 0, false)
	wantState(t, x, true, mine(), false)
	wantYes(t, x, 2, true)
	wantState(t, x, true, mine(), true)
}

// Who said yes may promise, and is counted there, too.
func TestYesIsNoPromise(t *testing.T) {
	x := begun(t, 3, own(), mine())
	wantCounted(t, x, 0, promised(own()))
	wantCounted(t, x, 1, promised(own()))
	wantYes(t, x, 2, true)
	wantCounted(t, x, 2, accepted(own(), at(3, 0), of(2, 2)))
	wantState(t, x, true, of(2, 2), false)
}

// Of nil.

func TestNobody(t *testing.T) {
	var x *tally.Tally
	for range 2 {
		for _, node := range []int{math.MinInt, -1, 0, 1, 4, math.MaxInt} {
			wantNotCounted(t, x, node, api.Vote{})
			wantNotCounted(t, x, node, promised(own()))
			wantNotCounted(t, x, node, accepted(own(), at(3, 0), of(2, 2)))
			wantYes(t, x, node, false)
		}
		wantState(t, x, false, api.Chain{}, false)
	}
}

// One that New did not make counts nobody.
func TestTheZeroTally(t *testing.T) {
	var x tally.Tally
	for range 2 {
		for _, node := range []int{math.MinInt, -1, 0, 1, 4, math.MaxInt} {
			wantNotCounted(t, &x, node, api.Vote{})
			wantNotCounted(t, &x, node, accepted(at(0, 0), at(0, 0), of(0, 0)))
			wantYes(t, &x, node, false)
		}
		wantState(t, &x, false, api.Chain{}, false)
	}
}

// What is handed in, and what is answered.

// spoil turns all numbers of a list, and of what lies behind it in its memory.
func spoil(l []int) {
	l = l[:cap(l)]
	for i := range l {
		l[i] = 99
	}
}

func TestWhatIsHandedInIsNotKept(t *testing.T) {
	c, told := mine(), of(2, 2, 1)
	x := begun(t, 3, own(), c)
	spoil(c.Nodes)
	wantState(t, x, false, mine(), false)
	wantCounted(t, x, 0, accepted(own(), at(3, 0), told))
	spoil(told.Nodes)
	wantState(t, x, false, of(2, 2, 1), false)
}

func TestWhatIsHandedInStays(t *testing.T) {
	memory := []int{3, 1, 2, 77, 78}
	for k := range 4 {
		for epoch := range 4 {
			c := api.Chain{Epoch: epoch, Nodes: memory[:k]}
			tally.New(3, own(), c)
			x := begun(t, 3, own(), mine())
			for range 2 {
				x.Promise(0, accepted(own(), at(3, 0), c))
			}
			x.Promise(1, accepted(own(), at(4, 0), c))
			x.Chain()
			if !slices.Equal(memory, []int{3, 1, 2, 77, 78}) {
				t.Fatalf("%v", memory)
			}
		}
	}
}

func TestWhatIsAnsweredIsTheCallers(t *testing.T) {
	x := begun(t, 3, own(), mine())
	for _, want := range []api.Chain{mine(), of(2, 2, 1, 0)} {
		a, b := x.Chain(), x.Chain()
		spoil(a.Nodes)
		if !sameChain(b, want) {
			t.Errorf("two answers share a list: %v", b)
		}
		wantState(t, x, false, want, false)
		x.Promise(0, accepted(own(), at(3, 0), of(2, 2, 1, 0)))
	}
}

// No call panics, whatever it is given, and each says the same again.
func TestAnythingMayBeHandedIn(t *testing.T) {
	numbers := []int{math.MinInt, -1, 0, 1, 2, 4, 5, api.MaxEpoch, 1 << 32, math.MaxInt}
	told := func() string {
		s := ""
		for _, n := range numbers {
			for _, a := range numbers {
				s += fmt.Sprint(tally.Most(a))
				for _, b := range numbers {
					x, e := tally.New(n, at(a, b), of(b, a))
					s += fmt.Sprint(e)
					for _, node := range numbers {
						v := accepted(at(a, b), at(b, a), of(b, node, a))
						s += fmt.Sprint(x.Promise(node, v), x.Yes(node), x.Ready(), x.Chain(), x.Done())
					}
				}
			}
		}
		return s
	}
	if told() != told() {
		t.Error("the same calls answer otherwise")
	}
}
