package chain_test

import (
	"slices"
	"testing"

	"casebook/api"
	"casebook/chain"
)

// numbers answers a call that answers numbers from 0 to below n, the same ones in each run.
func numbers() func(n int) int {
	state := uint64(1)
	return func(n int) int {
		state = state*6364136223846793005 + 1442695040888963407
		return int((state >> 33) % uint64(n))
	}
}

// above are all that stand above a node, the next one first: from one to the one above it, up to the head.
func above(t *testing.T, c api.Chain, node int) []int {
	t.Helper()
	var l []int
	for node = chain.Above(c, node); node >= 0; node = chain.Above(c, node) {
		if l = append(l, node); len(l) > api.MaxNodes {
			t.Fatalf("in %v there is no head: %v", c, l)
		}
	}
	return l
}

// below are all that stand below a node, the next one first.
func below(t *testing.T, c api.Chain, node int) []int {
	t.Helper()
	var l []int
	for node = chain.Below(c, node); node >= 0; node = chain.Below(c, node) {
		if l = append(l, node); len(l) > api.MaxNodes {
			t.Fatalf("in %v there is no tail: %v", c, l)
		}
	}
	return l
}

// isSomeOf tells if each of some is one of all, in their order.
func isSomeOf(some, all []int) bool {
	for _, x := range some {
		k := slices.Index(all, x)
		if k < 0 {
			return false
		}
		all = all[k+1:]
	}
	return true
}

// wantOrderKept fails unless each that is in both chains has those above it that it had, or some of them.
func wantOrderKept(t *testing.T, before, behind api.Chain) {
	t.Helper()
	for node := range api.MaxNodes {
		if !chain.Has(before, node) || !chain.Has(behind, node) {
			continue
		}
		if had, has := above(t, before, node), above(t, behind, node); !isSomeOf(has, had) {
			t.Errorf("above %d: in %v %v, in %v %v", node, before, had, behind, has)
		}
	}
}

// 12.3, of each two chains of which one may follow the other.
func TestWhoStaysHasSomeOfThoseAboveIt(t *testing.T) {
	rows := orders()
	follow := 0
	for _, a := range rows {
		for _, b := range rows {
			before, behind := of(1, a...), of(2, b...)
			if !chain.Next(before, behind, api.MaxNodes) {
				continue
			}
			follow++
			wantOrderKept(t, before, behind)
		}
	}
	// Of m nodes there are 2^m - 1 choices, each alone or with one of 5 - m behind it; there are 5, 20, 60, 120, 120 rows of 1 to 5.
	if want := 5*1*5 + 20*3*4 + 60*7*3 + 120*15*2 + 120*31*1; follow != want {
		t.Errorf("%d may follow; not %d", follow, want)
	}
}

// 12.3, of two chains that have a node in both, where what stands above it is otherwise: they don't follow each other.
func TestWhoGetsOthersAboveItDoesNotStay(t *testing.T) {
	rows := orders()
	refused := 0
	for _, a := range rows {
		for _, b := range rows {
			before, behind := of(1, a...), of(2, b...)
			for k, node := range b {
				had := slices.Index(a, node)
				if had >= 0 && !isSomeOf(b[:k], a[:had]) {
					refused++
					if chain.Next(before, behind, api.MaxNodes) {
						t.Errorf("%v may follow %v, but %d has others above it", b, a, node)
					}
				}
			}
		}
	}
	if refused == 0 {
		t.Error("there were none")
	}
}

// In each chain all stand between head and tail, and who is above one has it below itself.
func TestAboveAndBelowTellOneOrder(t *testing.T) {
	for i, nodes := range orders() {
		c := of(i, nodes...)
		all := append([]int{chain.Head(c)}, below(t, c, chain.Head(c))...)
		if !slices.Equal(all, nodes) {
			t.Errorf("from head to tail of %v: %v", nodes, all)
		}
		all = append([]int{chain.Tail(c)}, above(t, c, chain.Tail(c))...)
		slices.Reverse(all)
		if !slices.Equal(all, nodes) {
			t.Errorf("from tail to head of %v: %v", nodes, all)
		}
	}
}

// anyNext answers a chain that follows by Without or With, or the same one, if nobody would be left, or none may come.
func anyNext(next func(n int) int, c api.Chain, n int) api.Chain {
	var behind api.Chain
	var e int
	if next(2) == 0 {
		behind, e = chain.With(c, next(n))
	} else {
		behind, e = chain.Without(c, []int{next(n), next(n)}[:next(3)])
	}
	if e != api.OK {
		return c
	}
	return behind
}

// 12.3, along long sequences of chains from the first one on: who stays from one to a later one has some of those above it that it had there.
func TestLongSequencesKeepTheOrder(t *testing.T) {
	next := numbers()
	for script := range 60 {
		n := 1 + script%api.MaxNodes
		c, _ := chain.First(n)
		long := 1
		var came [api.MaxNodes]api.Chain // the chain in which each came in again
		for node := range n {
			came[node] = c
		}
		for range 400 {
			before := c
			if c = anyNext(next, before, n); chain.Same(before, c) {
				continue
			}
			if long++; c.Epoch != long || !chain.Next(before, c, n) {
				t.Fatalf("%v may not follow %v", c, before)
			}
			wantOrderKept(t, before, c)
			for _, node := range c.Nodes {
				if !chain.Has(before, node) {
					came[node] = c
				}
				if had, has := above(t, came[node], node), above(t, c, node); !isSomeOf(has, had) {
					t.Fatalf("above %d: in %v %v, in %v %v", node, came[node], had, c, has)
				}
			}
		}
		if long < 50 {
			t.Errorf("script %d: only %d chains", script, long)
		}
	}
}
